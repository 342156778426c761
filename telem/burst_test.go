package telem_test

import (
	"fmt"
	"math/rand"
	"runtime"
	"slices"
	"testing"
	"time"

	"gnomon/api"
	"gnomon/telem"
)

// adds is a Work that adds to the counter 0.
func adds(n ...int64) telem.Work { return telem.Work{ID: 0, Kind: api.Counter, N: n} }

// observes is a Work that lets values fall into the histogram 1.
func observes(v ...int64) telem.Work { return telem.Work{ID: 1, Kind: api.Histogram, N: v} }

// samples is a Work that adds floats to the summary 2.
func samples(x ...float64) telem.Work { return telem.Work{ID: 2, Kind: api.Summary, X: x} }

// bursts holds a Burst against what it must answer.
func bursts(t *testing.T, x *telem.Telem, l []telem.Work, want ...api.Errno) {
	t.Helper()
	wants(t, l, x.Burst(l), want)
}

// allFree tells whether just so many stripes are free, and leaves them so.
func allFree(t *testing.T, x *telem.Telem, free int) {
	t.Helper()
	l := make([]telem.Work, free+1)
	want := make([]api.Errno, free+1)
	for i := range l {
		l[i] = adds()
	}
	want[free] = api.ErrFull
	bursts(t, x, l, want...)
}

// P18.1 of Bursts.

func TestExampleOfBursts(t *testing.T) {
	x := made(t, example, counter("c"), histogram("h"))
	bursts(t, x, []telem.Work{adds(1, 1, 1), observes(4, 5), adds(2)}, api.OK, api.OK, api.ErrFull)
	h := api.Value{Desc: histogram("h"), Total: api.Int{Lo: 9}, Counts: []api.Count{{Index: 4, N: 2}}, N: 2}
	wants(t, "Reset", x.Reset(), api.Snapshot{Precision: 1, Values: []api.Value{{Desc: counter("c"), Total: api.Int{Lo: 3}}, h}})
	bursts(t, x, []telem.Work{{Kind: 0}}, api.ErrKind)
	bursts(t, x, []telem.Work{adds(-1, 4)}, api.ErrRange)
	wants(t, "Reset", x.Reset(), api.Snapshot{Precision: 1, Values: []api.Value{{Desc: counter("c"), Total: api.Int{Lo: 4}}, {Desc: histogram("h")}}, Refused: 1})
}

func TestBurstsOfNothing(t *testing.T) {
	x := made(t, example, three...)
	for _, l := range [][]telem.Work{nil, {}, make([]telem.Work, 0, 9)} {
		if e := x.Burst(l); len(e) != 0 {
			t.Errorf("%v", e)
		}
	}
	// A Work without numbers has no error but for its Kind, and for want of a stripe, whatever its ID.
	for _, id := range append([]int{0, 1, 2, 3}, noNumbers...) {
		for _, kind := range kinds {
			bursts(t, x, []telem.Work{{ID: id, Kind: kind}}, api.OK)
			bursts(t, x, []telem.Work{{ID: id, Kind: kind}, {Kind: kind}, {Kind: kind}, {Kind: 0}}, api.OK, api.OK, api.ErrFull, api.ErrKind)
		}
	}
	// The list that its Kind doesn't name counts for nothing.
	bursts(t, x, []telem.Work{{ID: 0, Kind: api.Counter, X: []float64{1, nan}}, {ID: 1, Kind: api.Histogram, X: []float64{1, nan}}}, api.OK, api.OK)
	bursts(t, x, []telem.Work{{ID: 2, Kind: api.Summary, N: []int64{1, -1}}}, api.OK)
	wants(t, "Reset", x.Reset(), api.Snapshot{Precision: 1, Values: []api.Value{{Desc: three[0]}, {Desc: three[1]}, {Desc: three[2]}}})
}

func TestBurstsOfOne(t *testing.T) {
	for _, stripes := range []int{1, 2, api.MaxStripes} {
		x := made(t, api.Config{Stripes: stripes, Precision: 2, Cells: 10000}, three...)
		bursts(t, x, []telem.Work{adds(5, 0, greatest, greatest, greatest)}, api.OK)
		bursts(t, x, []telem.Work{observes(100)}, api.OK)
		bursts(t, x, []telem.Work{samples(1e16, 1, -1e16)}, api.OK)
		wants(t, "Reset", x.Reset(), api.Snapshot{Precision: 2, Values: []api.Value{
			{Desc: three[0], Total: api.Int{Hi: 1, Lo: 1<<63 + 2}},
			{Desc: three[1], Total: api.Int{Lo: 100}, Counts: []api.Count{{Index: 22, N: 1}}, N: 1},
			{Desc: three[2], N: 3, Sum: 1, Min: -1e16, Max: 1e16},
		}})
		allFree(t, x, stripes)
	}
}

// The first Works of a list are given the stripes that are free; the others nothing, and nothing of them is recorded.
func TestBurstsOfMoreThanThereAreStripes(t *testing.T) {
	for stripes := 1; stripes <= api.MaxStripes; stripes++ {
		for held := 0; held <= stripes; held += 1 + stripes/3 {
			x := made(t, api.Config{Stripes: stripes, Precision: 1, Cells: 10000}, three...)
			for h := range held {
				handle(t, x, h+1, api.OK)
			}
			for _, more := range []int{0, 1, 2, 40} {
				var l []telem.Work
				var want []api.Errno
				for i := range stripes + more {
					l = append(l, adds(1<<i, -1))
					want = append(want, api.ErrRange)
					if i >= stripes-held {
						want[i] = api.ErrFull
					}
				}
				bursts(t, x, l, want...)
				s := x.Reset()
				free := stripes - held
				wants(t, l, []uint64{s.Values[0].Total.Lo, s.Refused}, []uint64{1<<free - 1, uint64(free)})
				allFree(t, x, free)
			}
			for h := range held {
				is(t, "Add", x.Add(h+1, 0, 1), api.OK)
				is(t, "Release", x.Release(h+1), api.OK)
			}
			allFree(t, x, stripes)
			if held < stripes {
				handle(t, x, held+1, api.OK)
			}
		}
	}
}

// A Work of no kind takes no stripe, is told so ahead of there being none, and counts nothing.
func TestBurstsOfNoKind(t *testing.T) {
	x := made(t, example, three...)
	for _, kind := range noKinds {
		bad := telem.Work{ID: 0, Kind: kind, N: []int64{1, -1}, X: []float64{1, nan}}
		bursts(t, x, []telem.Work{bad}, api.ErrKind)
		bursts(t, x, []telem.Work{bad, adds(1), bad, bad, observes(2), bad, adds(4), bad}, api.ErrKind, api.OK, api.ErrKind, api.ErrKind, api.OK, api.ErrKind, api.ErrFull, api.ErrKind)
		s := x.Reset()
		wants(t, kind, []uint64{s.Values[0].Total.Lo, s.Values[1].N, s.Values[2].N, s.Refused}, []uint64{1, 1, 0, 0})
	}
	handle(t, x, 1, api.OK)
	handle(t, x, 2, api.OK)
	bursts(t, x, []telem.Work{{Kind: 0}, adds(1), {Kind: 4}}, api.ErrKind, api.ErrFull, api.ErrKind)
}

// An instrument that is none is told, and not counted; one of another kind is told, and each number is counted as refused.
func TestBurstsOfOtherInstruments(t *testing.T) {
	x, b := made(t, example, three...), newBook(example)
	for _, d := range three {
		b.register(d)
	}
	seen := map[api.Errno]int{}
	for _, id := range append([]int{0, 1, 2, 3}, noNumbers...) {
		for _, kind := range kinds {
			for _, n := range [][]int64{{5}, {5, 6, 7}, {-1}, {5, -1}, {-1, 5}, {5, -1, 6, -2, 7}} {
				w := telem.Work{ID: id, Kind: kind, N: n}
				for _, v := range n {
					w.X = append(w.X, float64(v))
					if v < 0 {
						w.X[len(w.X)-1] = nan
					}
				}
				want := b.burst([]telem.Work{w})
				seen[want[0]]++
				bursts(t, x, []telem.Work{w}, want...)
				wants(t, w, x.Reset(), b.reset())
			}
		}
	}
	if len(seen) != 4 {
		t.Errorf("%v alone", seen)
	}
	allFree(t, x, 2)
}

// What stands behind a number that is refused is recorded all the same, and the error is that of the first one.
func TestNumbersThatAreRefusedInTheMidst(t *testing.T) {
	x := made(t, api.Config{Stripes: 3, Precision: 1, Cells: 10000}, three...)
	refused := uint64(0)
	for _, bad := range noWholes {
		for at := range 6 {
			n := []int64{1, 2, 4, 8, 16}
			bursts(t, x, []telem.Work{adds(slices.Insert(n, at, bad)...), observes(slices.Insert(n, at, bad, bad)...), adds(32)}, api.ErrRange, api.ErrRange, api.OK)
			refused += 3
			s := x.Reset()
			wants(t, at, []uint64{s.Values[0].Total.Lo, s.Values[1].Total.Lo, s.Values[1].N, s.Refused}, []uint64{63, 31, 5, 3})
		}
	}
	for _, bad := range noFloats {
		for at := range 4 {
			f := []float64{1, 2, 4}
			bursts(t, x, []telem.Work{samples(8), samples(slices.Insert(f, at, bad)...)}, api.OK, api.ErrRange)
			refused++
			s := x.Reset()
			wants(t, at, []any{s.Values[2].Sum, s.Values[2].N, s.Values[2].Min, s.Values[2].Max, s.Refused}, []any{15.0, 4, 1.0, 8.0, 1})
		}
	}
	if got := x.Totals().Refused; got != refused {
		t.Errorf("%d refused, not %d", got, refused)
	}
}

// The answers stand in the list's order, whichever goroutine ends first.
func TestAnswersAreInOrder(t *testing.T) {
	x, b := made(t, api.Config{Stripes: 16, Precision: 1, Cells: 10000}, three...), newBook(api.Config{Stripes: 16, Precision: 1, Cells: 10000})
	for _, d := range three {
		b.register(d)
	}
	long := make([]int64, 3000)
	for seed := range int64(300) {
		r := rand.New(rand.NewSource(seed))
		l := make([]telem.Work, 16)
		for i := range l {
			l[i] = drawWork(r)
			if r.Intn(4) == 0 {
				l[i].N = append(l[i].N, long[:r.Intn(len(long))]...)
			}
		}
		bursts(t, x, l, b.burst(l)...)
		wants(t, seed, x.Reset(), b.reset())
	}
}

// Bursts and handles share the stripes; a Burst tells no handle.
func TestBurstsBesideHandles(t *testing.T) {
	x := made(t, api.Config{Stripes: 3, Precision: 1, Cells: 10000}, three...)
	handle(t, x, 1, api.OK)
	bursts(t, x, []telem.Work{adds(1), adds(2), adds(4)}, api.OK, api.OK, api.ErrFull)
	handle(t, x, 2, api.OK)
	is(t, "Add", x.Add(3, 0, 8), api.ErrAbsent)
	wants(t, "the stripe", x.Stripe(2), 1)
	is(t, "Release", x.Release(1), api.OK)
	bursts(t, x, []telem.Work{adds(16), adds(32), adds(64)}, api.OK, api.OK, api.ErrFull)
	handle(t, x, 3, api.OK)
	wants(t, "the stripe", x.Stripe(3), 0)
	handle(t, x, 4, api.OK)
	bursts(t, x, []telem.Work{adds(128)}, api.ErrFull)
	wants(t, "Reset", x.Reset().Values[0].Total.Lo, 1+2+16+32)
}

// A Burst without any instrument ends, and tells that there is none.
func TestBurstsWithoutInstruments(t *testing.T) {
	x := made(t, example)
	bursts(t, x, []telem.Work{adds(1, -1), {Kind: 9}, samples(nan), observes(1)}, api.ErrAbsent, api.ErrKind, api.ErrAbsent, api.ErrFull)
	wants(t, "Reset", x.Reset(), api.Snapshot{Precision: 1})
}

// When a Burst has answered, its goroutines have ended.
func TestNoGoroutineIsLeft(t *testing.T) {
	x := made(t, api.Config{Stripes: 16, Precision: 1, Cells: 10000}, three...)
	l := slices.Repeat([]telem.Work{adds(1, 2, 3), observes(4, 5), samples(0.5), {Kind: 0}}, 6)
	before := runtime.NumGoroutine()
	for range 200 {
		x.Burst(l)
	}
	// One that has told that it ends may be there for a moment yet.
	for i := 0; runtime.NumGoroutine() > before; i++ {
		if i == 1000 {
			t.Fatalf("%d goroutines, ahead of it %d", runtime.NumGoroutine(), before)
		}
		time.Sleep(time.Millisecond)
	}
	wants(t, "Reset", fmt.Sprint(x.Reset().Values[0].Total), fmt.Sprint(api.Int{Lo: 200 * 36}))
}
