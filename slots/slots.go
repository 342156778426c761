// Package slots is for whoever does the calls of a script, by gates or without: calls over one registry that name its instruments and recorders by slots. What is done for each is said in shared/doc/19-drive.md.
package slots

import (
	"gnomon/api"
	"gnomon/gate"
	"gnomon/recorder"
	"gnomon/registry"
)

// Shared is what the threads of a script share. Only one of them goes on at a time, till it stands in a step of its gate, or its call has ended: so the slots want no lock.
type Shared struct {
	registry *registry.Registry
	doers    map[int]doer
	numbers  [api.MaxSlots]number
}

// number is a slot for an instrument's.
type number struct {
	filled bool
	id     int
}

// Thread is one of a script's, with slots for recorders of its own.
type Thread struct {
	shared    *Shared
	recorders [api.MaxSlots]*recorder.Recorder
}

// doer does a call, and tells what is told of it.
type doer func(t *Thread, g *gate.Gate, c api.Call) api.Done

// New makes what threads share, over a new registry; the error is that of registry.New.
func New(c api.Config) (*Shared, api.Errno) {
	r, e := registry.New(c)
	if e != api.OK {
		return nil, e
	}
	return &Shared{registry: r, doers: doers()}, api.OK
}

// Thread makes a thread, whose slots are empty.
func (s *Shared) Thread() *Thread { return &Thread{shared: s} }

// Do does a call of the thread's, and tells what it answers: E, N and Snapshot alone.
func (t *Thread) Do(g *gate.Gate, c api.Call) api.Done {
	do, ok := t.shared.doers[c.Kind]
	if !ok {
		return api.Done{E: api.ErrKind}
	}
	return do(t, g, c)
}

// doers tells what is done for each kind of call.
func doers() map[int]doer {
	return map[int]doer{
		api.CallRegister: (*Thread).register,
		api.CallRecorder: (*Thread).recorder,
		api.CallRelease:  (*Thread).release,
		api.CallAdd:      recording((*Thread).add),
		api.CallObserve:  recording((*Thread).observe),
		api.CallSample:   recording((*Thread).sample),
		api.CallReset:    (*Thread).reset,
		api.CallTotals:   (*Thread).totals,
	}
}

// isSlot tells whether there is a slot of that number.
func isSlot(i int) bool { return i >= 0 && i < api.MaxSlots }

func (t *Thread) register(g *gate.Gate, c api.Call) api.Done {
	if !isSlot(c.Slot) {
		return api.Done{E: api.ErrRange}
	}
	id, e := t.shared.registry.Register(g, c.Desc)
	// Other threads may have filled the slot while this one waited: so it is looked at now.
	if slot := &t.shared.numbers[c.Slot]; e == api.OK && !slot.filled {
		*slot = number{filled: true, id: id}
	}
	return api.Done{E: e, N: id}
}

func (t *Thread) recorder(g *gate.Gate, c api.Call) api.Done {
	if !isSlot(c.Rec) {
		return api.Done{E: api.ErrRange}
	}
	if x := t.recorders[c.Rec]; x != nil && !x.Closed() {
		return api.Done{E: api.ErrState}
	}
	x, e := t.shared.registry.Recorder(g)
	if e != api.OK {
		return api.Done{E: e}
	}
	t.recorders[c.Rec] = x
	return api.Done{N: x.Stripe()}
}

func (t *Thread) release(g *gate.Gate, c api.Call) api.Done {
	if !isSlot(c.Rec) {
		return api.Done{E: api.ErrRange}
	}
	x := t.recorders[c.Rec]
	if x == nil {
		return api.Done{E: api.ErrAbsent}
	}
	return api.Done{E: t.shared.registry.Release(g, x)}
}

// recording tells the doer of a kind of records, which all look at both slots first.
func recording(record func(t *Thread, g *gate.Gate, x *recorder.Recorder, id int, c api.Call) api.Errno) doer {
	return func(t *Thread, g *gate.Gate, c api.Call) api.Done {
		if !isSlot(c.Slot) || !isSlot(c.Rec) {
			return api.Done{E: api.ErrRange}
		}
		slot, x := t.shared.numbers[c.Slot], t.recorders[c.Rec]
		if !slot.filled || x == nil {
			return api.Done{E: api.ErrAbsent}
		}
		return api.Done{E: record(t, g, x, slot.id, c)}
	}
}

func (t *Thread) add(g *gate.Gate, x *recorder.Recorder, id int, c api.Call) api.Errno {
	return t.shared.registry.Add(g, x, id, c.N)
}

func (t *Thread) observe(g *gate.Gate, x *recorder.Recorder, id int, c api.Call) api.Errno {
	return t.shared.registry.Observe(g, x, id, c.N)
}

func (t *Thread) sample(g *gate.Gate, x *recorder.Recorder, id int, c api.Call) api.Errno {
	return t.shared.registry.Sample(g, x, id, c.X)
}

func (t *Thread) reset(g *gate.Gate, _ api.Call) api.Done {
	return api.Done{Snapshot: t.shared.registry.Reset(g)}
}

func (t *Thread) totals(g *gate.Gate, _ api.Call) api.Done {
	return api.Done{Snapshot: t.shared.registry.Totals(g)}
}
