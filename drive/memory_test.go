package drive_test

import (
	"math/rand"
	"slices"
	"testing"

	"gnomon/api"
)

// R3: what is handed in is neither changed nor kept, and an answer is new memory.

// spoil writes over a list, its spare room too.
func spoil[T any](l []T, with T) {
	l = l[:cap(l)]
	for i := range l {
		l[i] = with
	}
}

// roomy tells a list with spare room, which is filled.
func roomy[T any](l []T, with T) []T {
	out := append(slices.Clone(l), with, with, with)
	return out[:len(l)]
}

// junk is what lists are spoiled with.
var (
	junkLabel = api.Label{Name: "junk", Value: "junk"}
	junkCall  = api.Call{Kind: api.CallAdd, Slot: 3, N: 99, Desc: counter("junk", "j", "k")}
	junkDone  = api.Done{E: 99, N: 99, Snapshot: api.Snapshot{Precision: 99}, From: 99, Ended: true}
	junkValue = api.Value{Desc: counter("junk"), N: 99}
)

// roomyScript tells a script all of whose lists have spare room.
func roomyScript(s api.Script) api.Script {
	s.Picks = roomy(s.Picks, 77)
	s.Threads = roomy(s.Threads, []api.Call{junkCall})
	for th, l := range s.Threads {
		s.Threads[th] = roomy(l, junkCall)
		for k, c := range l {
			s.Threads[th][k].Desc.Labels = roomy(c.Desc.Labels, junkLabel)
		}
	}
	return s
}

// wholeScript tells a script's lists with their spare room.
func wholeScript(s api.Script) (out []any) {
	out = append(out, slices.Clone(s.Picks[:cap(s.Picks)]))
	for _, l := range s.Threads[:cap(s.Threads)] {
		for _, c := range l[:cap(l)] {
			c.Desc.Labels = slices.Clone(c.Desc.Labels[:cap(c.Desc.Labels)])
			out = append(out, c)
		}
	}
	return out
}

// spoilScript writes over all of a script's lists.
func spoilScript(s api.Script) {
	for _, l := range s.Threads {
		for _, c := range l {
			spoil(c.Desc.Labels, junkLabel)
		}
		spoil(l, junkCall)
	}
	spoil(s.Picks, 77)
	spoil(s.Threads, []api.Call{junkCall})
}

// deep tells a history in memory of its own.
func deep(h api.History) api.History {
	h.Threads = slices.Clone(h.Threads)
	for th, l := range h.Threads {
		h.Threads[th] = slices.Clone(l)
		for k := range l {
			s := &h.Threads[th][k].Snapshot
			s.Values = slices.Clone(s.Values)
			for i := range s.Values {
				v := &s.Values[i]
				v.Counts, v.Desc.Labels = slices.Clone(v.Counts), slices.Clone(v.Desc.Labels)
			}
		}
	}
	return h
}

// lists tells how each of a history's lists is written over, one by one, those within ahead of those that they stand in.
func lists(h api.History) (out []func()) {
	for _, l := range h.Threads {
		for _, d := range l {
			for _, v := range d.Snapshot.Values {
				out = append(out, func() { spoil(v.Desc.Labels, junkLabel) }, func() { spoil(v.Counts, api.Count{Index: 9, N: 9}) })
			}
			out = append(out, func() { spoil(d.Snapshot.Values, junkValue) })
		}
		out = append(out, func() { spoil(l, junkDone) })
	}
	return append(out, func() { spoil(h.Threads, []api.Done{junkDone}) })
}

func TestWhatIsHandedInStays(t *testing.T) {
	r := rand.New(rand.NewSource(199))
	for range 200 {
		c, s := someScript(r, 1+r.Intn(api.MaxThreads))
		want := want(c, s)
		s = roomyScript(s)
		was := wholeScript(s)
		h := plays(t, c, s)
		wants(t, "the script", wholeScript(s), was)
		spoilScript(s)
		wants(t, "the history, when the script is written over", h, want)
	}
}

// Each list of a history that is written over changes itself alone, and neither what was handed in nor the next history.
func TestAnAnswerIsItsOwners(t *testing.T) {
	c := api.Config{Stripes: 2, Precision: 1, Cells: 2000}
	l := labels("a", "x", "b", "y")
	calls := []api.Call{
		register(api.Desc{Kind: api.Histogram, Name: "h", Labels: l}, 0), register(api.Desc{Kind: api.Histogram, Name: "i", Labels: l}, 1),
		register(api.Desc{Kind: api.Counter, Name: "c", Labels: l}, 2), take(0), observe(0, 0, 5), observe(0, 0, 9), observe(1, 0, 5), add(2, 0, 5), reset, totals, reset, totals,
	}
	s := roomyScript(api.Script{Threads: [][]api.Call{calls, calls}, Drain: true})
	was, first := wholeScript(s), deep(plays(t, c, s))
	for i := range lists(first) {
		h := plays(t, c, s)
		all := lists(h)
		all[i]()
		// What the others are is told by writing over a copy in the same way: but for the one list, it stays.
		copied := deep(first)
		lists(copied)[i]()
		wants(t, i, h, copied)
		wants(t, i, wholeScript(s), was)
		wants(t, i, plays(t, c, s), first)
	}
}
