package slots_test

import (
	"fmt"
	"math"
	"slices"
	"testing"

	"gnomon/api"
	"gnomon/gate"
	"gnomon/registry"
	"gnomon/slots"
)

// Without a gate here; by gates, whoever's step comes next, the calls are tested with package drive.

var (
	noKinds     = []int{0, 9, -1, -8, 15, 256, 257, 1<<32 + 1, math.MaxInt, math.MinInt}
	noSlots     = []int{-1, 16, -16, 17, 31, 256, 1 << 32, 1<<32 + 1, math.MaxInt, math.MinInt}
	recordKinds = []int{api.CallAdd, api.CallObserve, api.CallSample}
)

func counter(name string) api.Desc { return api.Desc{Kind: api.Counter, Name: name} }

func register(d api.Desc, slot int) api.Call {
	return api.Call{Kind: api.CallRegister, Slot: slot, Desc: d}
}

func take(rec int) api.Call { return api.Call{Kind: api.CallRecorder, Rec: rec} }

func release(rec int) api.Call { return api.Call{Kind: api.CallRelease, Rec: rec} }

func add(slot, rec int, n int64) api.Call {
	return api.Call{Kind: api.CallAdd, Slot: slot, Rec: rec, N: n}
}

var (
	reset  = api.Call{Kind: api.CallReset}
	totals = api.Call{Kind: api.CallTotals}
)

// made makes what threads share.
func made(t *testing.T, c api.Config) *slots.Shared {
	t.Helper()
	s, e := slots.New(c)
	if e != api.OK {
		t.Fatalf("New(%+v): %v", c, e)
	}
	return s
}

// does lets a thread do a call, and holds all that is told of it against what it must be.
func does(t *testing.T, by *slots.Thread, c api.Call, want api.Done) {
	t.Helper()
	if got := by.Do(nil, c); fmt.Sprintf("%+v", got) != fmt.Sprintf("%+v", want) {
		t.Fatalf("%+v: %+v, not %+v", c, got, want)
	}
}

// tells tells what a call does that tells the totals of counters.
func tells(refused uint64, descs []api.Desc, n ...uint64) api.Done {
	s := api.Snapshot{Precision: 1, Refused: refused}
	for i, n := range n {
		s.Values = append(s.Values, api.Value{Desc: descs[i], Total: api.Int{Lo: n}})
	}
	return api.Done{Snapshot: s}
}

func TestNewTellsTheRegistrysErrors(t *testing.T) {
	for _, stripes := range []int{math.MinInt, -1, 0, 1, 16, 17, math.MaxInt} {
		for _, p := range []int{-1, 0, 1, 14, 15} {
			for _, cells := range []int{-1, 0, 1, 1048576, 1048577} {
				c := api.Config{Stripes: stripes, Precision: p, Cells: cells}
				_, want := registry.New(c)
				if s, e := slots.New(c); e != want || (s == nil) != (e != api.OK) {
					t.Errorf("New(%+v): %v, %v", c, s, e)
				}
			}
		}
	}
}

// What each kind of call looks at first: kinds and slots that are none, slots that are empty.
func TestWhatSlotsRefuse(t *testing.T) {
	s := made(t, api.Config{Stripes: 2, Precision: 1, Cells: 100})
	one, two := s.Thread(), s.Thread()
	for _, kind := range noKinds {
		does(t, one, api.Call{Kind: kind, Slot: 16, Rec: 16}, api.Done{E: api.ErrKind})
	}
	for _, none := range noSlots {
		for _, c := range []api.Call{register(counter("c"), none), register(api.Desc{}, none), take(none), release(none)} {
			does(t, one, c, api.Done{E: api.ErrRange})
		}
		for _, kind := range recordKinds {
			does(t, one, api.Call{Kind: kind, Slot: none}, api.Done{E: api.ErrRange})
			does(t, one, api.Call{Kind: kind, Rec: none}, api.Done{E: api.ErrRange})
		}
	}
	does(t, one, totals, tells(0, nil))
	does(t, one, register(counter("c"), 3), api.Done{})
	does(t, one, take(4), api.Done{})
	does(t, one, take(4), api.Done{E: api.ErrState})
	for slot := range 16 {
		for rec := range 16 {
			want := api.Done{E: api.ErrAbsent}
			if slot == 3 && rec == 4 {
				want = api.Done{}
			}
			does(t, one, add(slot, rec, 5), want)
			does(t, two, add(slot, rec, 5), api.Done{E: api.ErrAbsent})
		}
	}
	does(t, one, release(3), api.Done{E: api.ErrAbsent})
	does(t, two, release(4), api.Done{E: api.ErrAbsent})
	does(t, one, reset, tells(0, []api.Desc{counter("c")}, 5))
}

// All threads share the slots for instruments, and one that has a number keeps it; recorders are each thread's own.
func TestWhoseSlots(t *testing.T) {
	s := made(t, api.Config{Stripes: 2, Precision: 1, Cells: 100})
	one, two := s.Thread(), s.Thread()
	descs := []api.Desc{counter("a"), counter("b"), counter("c")}
	does(t, one, register(descs[0], 0), api.Done{N: 0})
	does(t, two, register(descs[1], 0), api.Done{N: 1})
	does(t, two, register(descs[1], 15), api.Done{N: 1})
	does(t, one, register(api.Desc{Kind: api.Summary, Name: "a"}, 1), api.Done{E: api.ErrUnlike})
	does(t, one, register(api.Desc{Kind: 4, Name: "d"}, 1), api.Done{E: api.ErrKind})
	does(t, two, register(descs[2], 1), api.Done{N: 2})
	does(t, one, take(0), api.Done{N: 0})
	does(t, two, take(0), api.Done{N: 1})
	does(t, two, take(1), api.Done{E: api.ErrFull})
	does(t, two, add(0, 1, 9), api.Done{E: api.ErrAbsent})
	does(t, one, add(0, 0, 1), api.Done{})
	does(t, two, add(0, 0, 20), api.Done{})
	does(t, one, add(15, 0, 300), api.Done{})
	does(t, two, add(1, 0, 4000), api.Done{})
	does(t, one, release(0), api.Done{})
	does(t, one, release(0), api.Done{E: api.ErrState})
	does(t, one, add(0, 0, 9), api.Done{E: api.ErrState})
	does(t, two, add(0, 0, -1), api.Done{E: api.ErrRange})
	does(t, two, take(1), api.Done{N: 0})
	does(t, one, take(0), api.Done{E: api.ErrFull})
	does(t, one, totals, tells(0, descs, 0, 0, 0))
	does(t, one, reset, tells(2, descs, 21, 300, 4000))
	does(t, two, reset, tells(0, descs, 0, 0, 0))
	does(t, two, totals, tells(2, descs, 21, 300, 4000))
}

// N is a counter's and a histogram's, X a summary's.
func TestWhichNumberIsRecorded(t *testing.T) {
	s := made(t, api.Config{Stripes: 1, Precision: 1, Cells: 300})
	by := s.Thread()
	descs := []api.Desc{counter("c"), {Kind: api.Histogram, Name: "h"}, {Kind: api.Summary, Name: "s"}}
	for slot, d := range descs {
		does(t, by, register(d, slot), api.Done{N: slot})
	}
	does(t, by, take(0), api.Done{})
	for slot, kind := range recordKinds {
		does(t, by, api.Call{Kind: kind, Slot: slot, N: 5, X: 2.5}, api.Done{})
		does(t, by, api.Call{Kind: kind, Slot: (slot + 1) % 3, N: 5, X: 2.5}, api.Done{E: api.ErrKind})
	}
	want := api.Snapshot{Precision: 1, Refused: 3, Values: []api.Value{
		{Desc: descs[0], Total: api.Int{Lo: 5}},
		{Desc: descs[1], Total: api.Int{Lo: 5}, Counts: []api.Count{{Index: 4, N: 1}}, N: 1},
		{Desc: descs[2], N: 1, Sum: 2.5, Min: 2.5, Max: 2.5},
	}}
	does(t, by, reset, api.Done{Snapshot: want})
}

// Two registries have nothing to do with each other.
func TestEachSharedIsItsOwn(t *testing.T) {
	c := api.Config{Stripes: 1, Precision: 1, Cells: 100}
	one, two := made(t, c).Thread(), made(t, c).Thread()
	for _, by := range []*slots.Thread{one, two} {
		does(t, by, register(counter("c"), 0), api.Done{})
		does(t, by, take(0), api.Done{})
	}
	does(t, one, add(0, 0, 5), api.Done{})
	does(t, two, reset, tells(0, []api.Desc{counter("c")}, 0))
	does(t, one, reset, tells(0, []api.Desc{counter("c")}, 5))
}

// By a gate a call's steps are those of the registry, and what slots refuse does none.
func TestStepsAreTheGates(t *testing.T) {
	by := made(t, api.Config{Stripes: 1, Precision: 1, Cells: 100}).Thread()
	var got []int
	n := gate.Run([]func(g *gate.Gate){func(g *gate.Gate) {
		for _, c := range []api.Call{add(0, 0, 5), register(counter("c"), 0), take(0), take(0), add(0, 0, 5), {}, reset, totals, release(0)} {
			g.Begin()
			by.Do(g, c)
			steps, _, _ := g.Tally()
			got = append(got, steps)
		}
	}}, nil, true)
	if want := []int{0, 3, 3, 0, 4, 0, 11, 3, 3}; n != 27 || !slices.Equal(got, want) {
		t.Errorf("%d picks, %v steps, not %v", n, got, want)
	}
}
