package ring_test

import (
	"math/rand"
	"slices"
	"testing"

	"gnomon/api"
	"gnomon/ring"
	"gnomon/snap"
)

// P21.8: R3.

// spacious tells a list as a piece of a longer one, whose other elements are odd.
func spacious[T any](l []T, odd T) []T {
	all := append(append([]T(nil), l...), odd, odd, odd)
	return all[:len(l)]
}

// roomy tells a snapshot of which every list has spare room.
func roomy(s api.Snapshot) api.Snapshot {
	s.Values = spacious(s.Values, api.Value{Desc: api.Desc{Name: "odd"}, N: 77})
	for i := range s.Values {
		v := &s.Values[i]
		v.Desc.Labels = spacious(v.Desc.Labels, api.Label{Name: "odd", Value: "odd"})
		v.Counts = spacious(v.Counts, api.Count{Index: 77, N: 77})
	}
	return s
}

// deep tells a snapshot as lists of its own.
func deep(s api.Snapshot) api.Snapshot {
	s.Values = append([]api.Value(nil), s.Values...)
	for i := range s.Values {
		v := &s.Values[i]
		v.Desc.Labels = append([]api.Label(nil), v.Desc.Labels...)
		v.Counts = append([]api.Count(nil), v.Counts...)
	}
	return s
}

// unrolled tells a snapshot with all its spare room, as lists of its own.
func unrolled(s api.Snapshot) api.Snapshot {
	s.Values = slices.Clone(s.Values[:cap(s.Values)])
	for i := range s.Values {
		v := &s.Values[i]
		v.Desc.Labels = slices.Clone(v.Desc.Labels[:cap(v.Desc.Labels)])
		v.Counts = slices.Clone(v.Counts[:cap(v.Counts)])
	}
	return s
}

func fill[T any](l []T, x T) {
	l = l[:cap(l)]
	for i := range l {
		l[i] = x
	}
}

// spoilValue writes over the lists of a value, their spare room too.
func spoilValue(v api.Value) {
	fill(v.Desc.Labels, api.Label{Name: "spoiled"})
	fill(v.Counts, api.Count{Index: -9, N: 9})
}

// spoil writes over all lists of a snapshot, their spare room too.
func spoil(s api.Snapshot) {
	for _, v := range s.Values[:cap(s.Values)] {
		spoilValue(v)
	}
	fill(s.Values, api.Value{N: 99})
}

// TestPushKeepsNothing: what was handed in is left as it was, and whoever writes over it then changes no ring.
func TestPushKeepsNothing(t *testing.T) {
	r := rand.New(rand.NewSource(221))
	for range 400 {
		room := 1 + r.Intn(4)
		g, _ := ring.New(room)
		m := &model{room: room}
		for at := range int64(r.Intn(10)) {
			s := roomy(some(r))
			if r.Intn(4) == 0 {
				s = roomy(odd(r))
			}
			was := unrolled(s)
			if e, want := g.Push(at, s), m.push(at, s); e != want {
				t.Fatalf("Push: %v, want %v", e, want)
			}
			if !snap.Same(unrolled(s), was) {
				t.Fatalf("changed: %v", s)
			}
			u := g.Copy()
			spoil(s)
			agrees(t, r, g, m)
			agrees(t, r, u, m)
		}
	}
}

// TestOneSnapshotTwice: a snapshot that is pushed into a ring twice, and into another one, is not shared.
func TestOneSnapshotTwice(t *testing.T) {
	s := roomy(of(counter("c", 1, "x", "1"), histogram("h", 2)))
	g, u := made(t, 3, s, s), made(t, 1, s)
	want := deep(s)
	spoil(s)
	wantsWindow(t, g, 0, 10, want, 1)
	wantsWindow(t, g, 10, 20, want, 1)
	wantsWindow(t, u, 0, 10, want, 1)
}

// TestAnswersAreTheirOwners: whoever writes over an answer changes no ring and no other answer.
func TestAnswersAreTheirOwners(t *testing.T) {
	r := rand.New(rand.NewSource(222))
	told := 0
	for range 400 {
		room := 1 + r.Intn(4)
		g, _ := ring.New(room)
		m := &model{room: room}
		for at := range int64(1 + r.Intn(8)) {
			s := some(r)
			g.Push(at, s)
			m.push(at, s)
		}
		u := g.Copy()
		fill(g.Times(), -7)
		for range 6 {
			from, to := someTime(r, m), someTime(r, m)
			one, _, e := g.Window(from, to)
			if e != api.OK {
				continue
			}
			told++
			was := unrolled(one)
			another, _, _ := g.Window(from, to)
			third, _, _ := u.Window(from, to)
			spoil(another)
			spoil(third)
			if !snap.Same(unrolled(one), was) {
				t.Fatal("two answers share memory")
			}
			spoil(one)
			agrees(t, r, g, m)
			agrees(t, r, u, m)
		}
	}
	if told < 500 {
		t.Errorf("too little was tried: %d", told)
	}
}

// TestNoTwoListsAreShared: values that have one list of labels, and of counts, in what is pushed have lists of their own in what is told.
func TestNoTwoListsAreShared(t *testing.T) {
	l, n := spacious(labels("x", "1"), api.Label{Name: "odd"}), spacious([]api.Count{{Index: 1, N: 2}}, api.Count{Index: 77})
	shared := func(names ...string) api.Snapshot {
		s := of()
		for _, name := range names {
			s.Values = append(s.Values, api.Value{Desc: api.Desc{Kind: api.Histogram, Name: name, Labels: l}, Total: api.Int{Lo: 2}, Counts: n, N: 2})
		}
		return s
	}
	for _, g := range []*ring.Ring{made(t, 2, shared("a", "b", "c")), made(t, 2, shared("a", "b"), shared("b", "c")), made(t, 2, shared("a"), shared("b", "c"), of())} {
		s, _, e := g.Window(first, last)
		if e != api.OK {
			t.Fatal(e)
		}
		for i := range s.Values {
			was := unrolled(s)
			spoilValue(s.Values[i])
			now := unrolled(s)
			now.Values[i] = was.Values[i]
			if !snap.Same(now, was) {
				t.Errorf("the value %d shares a list with another one", i)
			}
		}
	}
}

// TestLabelsAreLeft: Rate changes no labels, their spare room neither.
func TestLabelsAreLeft(t *testing.T) {
	g := made(t, 2, of(counter("c", 1, "x", "1")))
	for _, l := range [][]api.Label{nil, labels("x", "1"), labels("y", "2", "x", "1"), labels("x", "1", "x", "1")} {
		l = spacious(l, api.Label{Name: "odd"})
		was := slices.Clone(l[:cap(l)])
		g.Rate("c", l, 0, 10)
		g.Rate("c", l, 10, 0)
		if !slices.Equal(l[:cap(l)], was) {
			t.Errorf("changed: %v", l[:cap(l)])
		}
	}
}
