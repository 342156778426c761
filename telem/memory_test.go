package telem_test

import (
	"bytes"
	"fmt"
	"slices"
	"testing"

	"gnomon/api"
	"gnomon/telem"
)

// P18.4: R3: what is handed in is neither changed nor kept, and an answer is new memory, spare room too.

// spoil writes over all of a list, its spare room too.
func spoil[T any](l []T, x T) {
	l = l[:cap(l)]
	for i := range l {
		l[i] = x
	}
}

// spoilAll writes over all lists of a snapshot.
func spoilAll(s api.Snapshot) {
	for _, v := range s.Values[:cap(s.Values)] {
		spoil(v.Desc.Labels, api.Label{Name: "spoiled", Value: "spoiled"})
		spoil(v.Counts, api.Count{Index: 77, N: 77})
	}
	spoil(s.Values, api.Value{N: 99})
}

// deep tells a snapshot with lists of its own, spare room too.
func deep(s api.Snapshot) api.Snapshot {
	s.Values = slices.Clone(s.Values[:cap(s.Values)])
	for i := range s.Values {
		v := &s.Values[i]
		v.Desc.Labels = slices.Clone(v.Desc.Labels[:cap(v.Desc.Labels)])
		v.Counts = slices.Clone(v.Counts[:cap(v.Counts)])
	}
	return s
}

// roomy tells a list with something in its spare room.
func roomy[T any](spare T, l ...T) []T { return append(slices.Clone(l), spare, spare)[:len(l)] }

// withRoom tells a list with its spare room.
func withRoom[T any](l []T) []T { return slices.Clone(l[:cap(l)]) }

func TestDescriptionsAreNotKept(t *testing.T) {
	d := []api.Desc{counter("c"), counter("c", "a", "x"), histogram("h", "a", "x", "b", "y"), summary("s", "q", "")}
	x := made(t, example)
	for round := range 3 {
		for id := range d {
			mine := d[id]
			mine.Labels = roomy(api.Label{Name: "spare"}, mine.Labels...)
			was := withRoom(mine.Labels)
			if got, e := x.Register(mine); got != id || e != api.OK {
				t.Fatalf("Register(%+v): %d, %v", mine, got, e)
			}
			wants(t, round, withRoom(mine.Labels), was)
			spoil(mine.Labels, api.Label{Name: "le", Value: "\xff"})
		}
		for _, s := range []api.Snapshot{x.Reset(), x.Totals()} {
			for id := range d {
				wants(t, round, s.Values[id].Desc, d[id])
			}
		}
	}
}

// What is handed to a Burst stays as it is, spare room too, and is not looked at any more when it has answered; lists that stand in it twice are read alone.
func TestBurstsChangeAndKeepNothing(t *testing.T) {
	x := made(t, api.Config{Stripes: 4, Precision: 1, Cells: 10000}, three...)
	n, f := roomy[int64](-9, 1, -1, 2, 4), roomy(nan, 0.5, nan, 1)
	l := roomy(telem.Work{ID: 77}, telem.Work{ID: 0, Kind: api.Counter, N: n, X: f}, telem.Work{ID: 1, Kind: api.Histogram, N: n, X: f}, telem.Work{Kind: 9, N: n, X: f}, telem.Work{ID: 2, Kind: api.Summary, N: n, X: f}, telem.Work{ID: 0, Kind: api.Counter, N: n[2:]}, telem.Work{Kind: api.Counter, N: n})
	wasN, wasF, wasL := withRoom(n), withRoom(f), fmt.Sprint(withRoom(l))
	want := []api.Errno{api.ErrRange, api.ErrRange, api.ErrKind, api.ErrRange, api.OK, api.ErrFull}
	bursts(t, x, l, want...)
	wants(t, "N", withRoom(n), wasN)
	wants(t, "X", withRoom(f), wasF)
	wants(t, "the list", fmt.Sprint(withRoom(l)), wasL)
	spoil(n, 1000)
	spoil(f, 1000)
	spoil(l, telem.Work{Kind: api.Counter, N: []int64{1000}})
	s := x.Reset()
	wants(t, "Reset", []any{s.Values[0].Total.Lo, s.Values[1].Total.Lo, s.Values[1].N, s.Values[2].Sum, s.Refused}, []any{13, 7, 3, 1.5, 3})
}

func TestAnswersOfBurstsAreNewMemory(t *testing.T) {
	x := made(t, example, three...)
	l := []telem.Work{adds(1), {Kind: 0}, adds(-1), adds(2)}
	want := []api.Errno{api.OK, api.ErrKind, api.ErrRange, api.ErrFull}
	var kept [][]api.Errno
	for range 20 {
		mine, spoilt := x.Burst(l), x.Burst(l)
		wants(t, "Burst", spoilt, want)
		kept = append(kept, mine)
		spoil(spoilt, 77)
		for _, e := range kept {
			wants(t, "Burst", e, want)
		}
	}
}

func TestSnapshotsAreNewMemory(t *testing.T) {
	d := []api.Desc{histogram("h", "a", "x"), counter("c", "a", "x"), summary("s", "q", ""), histogram("h", "b", "y")}
	config := api.Config{Stripes: 2, Precision: 1, Cells: 2000}
	x, y := made(t, config, d...), made(t, config, d...)
	var kept, was []api.Snapshot
	keep := func(a, b api.Snapshot) {
		wants(t, "both", a, b)
		spoilAll(b)
		kept, was = append(kept, a), append(was, deep(a))
	}
	load := func(by *telem.Telem) api.Snapshot {
		text, _ := by.Text()
		s, e, _ := by.Load(text)
		is(t, "Load", e, api.OK)
		return s
	}
	for round := range 12 {
		for id := range d {
			w := []telem.Work{{ID: id, Kind: d[id].Kind, N: []int64{int64(round * id)}, X: []float64{float64(round)}}}
			wants(t, w, x.Burst(w), y.Burst(w))
		}
		keep(x.Reset(), y.Reset())
		keep(x.Totals(), y.Totals())
		keep(load(x), load(y))
		for i := range kept {
			wants(t, round, deep(kept[i]), was[i])
		}
	}
}

// No two lists of one answer share memory.
func TestNoTwoListsAreShared(t *testing.T) {
	l := labels("a", "x", "b", "y")
	x := made(t, example)
	for id, name := range []string{"a", "b", "c", "d"} {
		x.Register(api.Desc{Kind: api.Histogram, Name: name, Labels: l})
		x.Burst([]telem.Work{{ID: id, Kind: api.Histogram, N: []int64{0, 1, 2, 3, 4}}})
	}
	interval := x.Reset()
	text, _ := x.Text()
	read, _, _ := x.Load(text)
	for _, s := range []api.Snapshot{interval, x.Totals(), read} {
		for i := range s.Values {
			was := deep(s)
			spoil(s.Values[i].Desc.Labels, api.Label{Name: fmt.Sprint(i)})
			spoil(s.Values[i].Counts, api.Count{Index: 77 + i, N: 77})
			for j, v := range deep(s).Values {
				if j != i && !same(v, was.Values[j]) {
					t.Errorf("the values %d and %d share a list", i, j)
				}
			}
		}
	}
}

// A text is its owner's: Text tells it anew, and Load neither changes nor keeps it, spare room too.
func TestTextsAreNewMemory(t *testing.T) {
	x := made(t, example, counter("c", "a", "x"), histogram("h", "a", "x\\"), summary("s"))
	x.Burst([]telem.Work{{ID: 0, Kind: api.Counter, N: []int64{5}}, {ID: 1, Kind: api.Histogram, N: []int64{5, 500}}})
	x.Burst([]telem.Work{{ID: 2, Kind: api.Summary, X: []float64{0.5, 1.5}}})
	x.Reset()
	want, _ := x.Text()
	want = slices.Clone(want)
	for range 5 {
		kept, _ := x.Text()
		spoilt, _ := x.Text()
		spoil(spoilt, '#')
		if !bytes.Equal(kept, want) {
			t.Fatalf("Text: %s", kept)
		}
		b := roomy('!', kept...)
		was := withRoom(b)
		s, e, _ := x.Load(b)
		is(t, "Load", e, api.OK)
		if !bytes.Equal(withRoom(b), was) {
			t.Fatalf("Load changed the text: %s", withRoom(b))
		}
		spoil(b, '#')
		wants(t, "Load", s, x.Totals())
	}
}
