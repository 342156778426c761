package telem_test

import (
	"fmt"
	"math/rand"
	"slices"
	"sync"
	"sync/atomic"
	"testing"
	"time"

	"gnomon/api"
	"gnomon/gate"
	"gnomon/snap"
	"gnomon/telem"
)

// P18.2: however Bursts, Resets and single records go at one time: what all Resets told, and one behind them all, merged, has just what was recorded OK, and how many were refused; the Totals too.

// ends tells whether goroutines end; it does not wait for ever, as what is wrong may let them wait till the end of days.
func ends(wait *sync.WaitGroup) bool {
	ended := make(chan bool)
	go func() {
		wait.Wait()
		close(ended)
	}()
	select {
	case <-ended:
		return true
	case <-time.After(time.Minute):
		return false
	}
}

// join waits for goroutines.
func join(t *testing.T, wait *sync.WaitGroup) {
	t.Helper()
	if !ends(wait) {
		t.Fatal("a call does not end")
	}
}

// merged tells two snapshots as one.
func merged(t *testing.T, a, b api.Snapshot) api.Snapshot {
	s, e := snap.Merge(a, b)
	if e != api.OK {
		t.Errorf("Merge: %v", e)
	}
	return s
}

// onlyCounted are the instruments of those that go at one time: two of each kind.
var onlyCounted = []api.Desc{counter("c"), histogram("h"), summary("s"), counter("c", "k", "1"), histogram("h", "k", "1"), summary("s", "k", "1")}

// someWork draws a Work of small numbers, some of which are refused: the sums of its floats hang on no order.
func someWork(r *rand.Rand) telem.Work {
	w := telem.Work{ID: r.Intn(len(onlyCounted) + 1), Kind: draws(r, kinds)}
	if r.Intn(3) > 0 && w.ID < len(onlyCounted) {
		w.Kind = onlyCounted[w.ID].Kind
	}
	if r.Intn(20) == 0 {
		w.Kind = draws(r, noKinds)
	}
	for range r.Intn(30) {
		n := int64(r.Intn(40) - 1)
		w.N, w.X = append(w.N, n), append(w.X, float64(n)/4)
		if n < 0 {
			w.X[len(w.X)-1] = nan
		}
	}
	return w
}

// worker is one of the goroutines that record at one time; b is its own account.
type worker struct {
	x *telem.Telem
	r *rand.Rand
	b *book
	t *testing.T
}

// burst does a Burst. Which of its Works find a stripe hangs on the others, but not what becomes of those that do.
func (w worker) burst() (full int) {
	var l []telem.Work
	for range w.r.Intn(5) {
		l = append(l, someWork(w.r))
	}
	got := w.x.Burst(l)
	if len(got) != len(l) {
		w.t.Errorf("%d errors of %d", len(got), len(l))
		return 0
	}
	for i, e := range got {
		if e == api.ErrFull {
			full++
			continue
		}
		if want := w.b.burst(l[i : i+1])[0]; e != want {
			w.t.Errorf("%+v: %v, not %v", l[i], e, want)
		}
	}
	return full
}

// single takes a handle, records by it, releases it, and records by it yet.
func (w worker) single() (full int) {
	h, e := w.x.Recorder()
	if e == api.ErrFull {
		return 1
	}
	mine, _ := w.b.recorder()
	for range w.r.Intn(30) {
		one := someWork(w.r)
		if len(one.N) == 0 || !slices.Contains(kinds, one.Kind) {
			continue
		}
		got, want := record(w.x, h, one.Kind, one.ID, one.N[0], one.X[0]), w.b.record(mine, one.Kind, one.ID, one.N[0], one.X[0])
		if got != want {
			w.t.Errorf("%+v: %v, not %v", one, got, want)
		}
	}
	w.b.release(mine)
	if e := w.x.Release(h); e != api.OK {
		w.t.Errorf("Release: %v", e)
	}
	for range w.r.Intn(3) {
		if got, want := w.x.Add(h, 0, 1), w.b.record(mine, api.Counter, 0, 1, 0); got != want || want != api.ErrState {
			w.t.Errorf("Add: %v, not %v", got, want)
		}
	}
	return 0
}

// live bursts and records so many times.
func (w worker) live(times int) (full int) {
	for range times {
		if w.r.Intn(2) == 0 {
			full += w.burst()
		} else {
			full += w.single()
		}
	}
	return full
}

// reads asks for the totals and their text, again and again: what they tell may be, and never goes down.
func reads(t *testing.T, x *telem.Telem, times int) {
	var last uint64
	for i := range times {
		s := x.Totals()
		if i%2 == 0 {
			text, e := x.Text()
			if e != api.OK {
				t.Errorf("Text: %v", e)
			}
			read, e, line := x.Load(text)
			if e != api.OK || line != 0 {
				t.Errorf("Load: %v, %d\n%s", e, line, text)
			}
			s = read
		}
		if e, at := snap.Check(s); e != api.OK || len(s.Values) != len(onlyCounted) {
			t.Errorf("%v, %d: %+v", e, at, s)
			return
		}
		sum := s.Refused
		for _, v := range s.Values {
			sum += v.Total.Lo + v.N
		}
		if sum < last {
			t.Errorf("the totals went down: %d, then %d", last, sum)
		}
		last = sum
	}
}

func TestAtOneTime(t *testing.T) {
	for i, c := range []struct{ workers, stripes, times, resets int }{{1, 1, 200, 100}, {3, 1, 100, 100}, {4, 4, 150, 100}, {8, 3, 80, 80}, {8, 16, 80, 100}, {16, 16, 40, 100}} {
		config := api.Config{Stripes: c.stripes, Precision: 1, Cells: 50000}
		x := made(t, config, onlyCounted...)
		var wait sync.WaitGroup
		workers := make([]worker, c.workers)
		var full atomic.Int64
		for k := range workers {
			// In its own account each has the stripes for itself.
			workers[k] = worker{x: x, r: rand.New(rand.NewSource(int64(100*i + k))), b: newBook(api.Config{Stripes: 16, Precision: 1, Cells: 50000}), t: t}
			for _, d := range onlyCounted {
				workers[k].b.register(d)
			}
			wait.Go(func() { full.Add(int64(workers[k].live(c.times))) })
		}
		told := make([]api.Snapshot, 2)
		for k := range told {
			told[k].Precision = 1
			wait.Go(func() {
				for range c.resets {
					told[k] = merged(t, told[k], x.Reset())
				}
			})
			wait.Go(func() { reads(t, x, c.resets) })
		}
		join(t, &wait)
		all := merged(t, merged(t, told[0], told[1]), x.Reset())
		want := api.Snapshot{Precision: 1}
		for _, w := range workers {
			want = merged(t, want, w.b.reset())
		}
		wants(t, c, all, want)
		wants(t, c, x.Totals(), want)
		thereAndBack(t, x, want)
		allFree(t, x, c.stripes)
		if full.Load() == 0 && c.workers > c.stripes || want.Refused == 0 {
			t.Errorf("%+v: %d found no stripe, %d refused", c, full.Load(), want.Refused)
		}
	}
}

// Whoever asks for recorders at one time: handles are told without a gap, each once, and each has a stripe of its own.
func TestHandlesAtOneTime(t *testing.T) {
	const goroutines, rounds, stripes = 8, 200, 5
	x := made(t, api.Config{Stripes: stripes, Precision: 1, Cells: 10000}, three...)
	var in [stripes]atomic.Bool
	told := make([][]int, goroutines)
	var wait sync.WaitGroup
	for i := range goroutines {
		wait.Go(func() {
			for len(told[i]) < rounds {
				h, e := x.Recorder()
				if e != api.OK {
					continue
				}
				if n := len(told[i]); n > 0 && told[i][n-1] >= h {
					t.Errorf("the handle %d behind %d", h, told[i][n-1])
				}
				told[i] = append(told[i], h)
				stripe := x.Stripe(h)
				if in[stripe].Swap(true) {
					t.Error("two have one stripe")
				}
				if e := x.Add(h, 0, 1); e != api.OK {
					t.Errorf("Add: %v", e)
				}
				in[stripe].Store(false)
				if e := x.Release(h); e != api.OK {
					t.Errorf("Release: %v", e)
				}
			}
		})
	}
	join(t, &wait)
	for i, h := range slices.Sorted(slices.Values(slices.Concat(told...))) {
		if h != i+1 {
			t.Fatalf("the handle %d is number %d", h, i+1)
		}
	}
	s := x.Reset()
	wants(t, "Reset", []uint64{s.Values[0].Total.Lo, s.Refused}, []uint64{goroutines * rounds, 0})
}

// A handle that goes from goroutine to goroutine, one at a time, is the same one.
func TestAHandleThatGoesRound(t *testing.T) {
	x := made(t, example, three...)
	handle(t, x, 1, api.OK)
	turn := make(chan int, 1)
	var wait sync.WaitGroup
	for range 6 {
		wait.Go(func() {
			for range 100 {
				h := <-turn
				if e := x.Add(h, 0, 1); e != api.OK {
					t.Errorf("Add: %v", e)
				}
				turn <- h
			}
		})
	}
	turn <- 1
	join(t, &wait)
	wants(t, "Reset", x.Reset().Values[0].Total.Lo, 600)
}

// Whoever registers while others burst: a number that was told may be used.
func TestRegisterAtOneTime(t *testing.T) {
	x := made(t, api.Config{Stripes: 4, Precision: 1, Cells: 100000})
	var wait sync.WaitGroup
	for i := range 4 {
		wait.Go(func() {
			for k := range 50 {
				id, e := x.Register(counter("c", "k", fmt.Sprint(k)))
				if e != api.OK {
					t.Errorf("Register: %v", e)
				}
				if e := x.Burst([]telem.Work{{ID: id, Kind: api.Counter, N: []int64{1 << i}}}); e[0] != api.OK {
					t.Errorf("Burst: %v", e)
				}
			}
		})
	}
	join(t, &wait)
	s := x.Reset()
	wants(t, "how many", len(s.Values), 50)
	for _, v := range s.Values {
		wants(t, v.Desc, v.Total.Lo, 15)
	}
}

// Nobody waits to record (W3): while a Reset holds the registry's lock, and rests, and another goroutine waits for a recorder, those that have handles record.
func TestNobodyWaitsToRecord(t *testing.T) {
	for taken := range 8 {
		x := made(t, example, three...)
		handle(t, x, 1, api.OK)
		var waits sync.WaitGroup
		reset := func(g *gate.Gate) { x.Registry().Reset(g) }
		other := func(g *gate.Gate) {
			g.Step()
			waits.Go(func() {
				if h, e := x.Recorder(); h != 2 || e != api.OK {
					t.Errorf("Recorder: %d, %v", h, e)
				}
			})
			time.Sleep(2 * time.Millisecond)
			var records sync.WaitGroup
			records.Go(func() {
				if e := x.Add(1, 0, 5); e != api.OK {
					t.Errorf("Add: %v", e)
				}
				if e := x.Add(2, 0, 5); e != api.ErrAbsent {
					t.Errorf("Add: %v", e)
				}
			})
			if !ends(&records) {
				t.Error("a record waits")
			}
		}
		// The Reset holds the lock from its first step on.
		picks := append(slices.Repeat([]int{0}, 1+taken), 1)
		gate.Run([]func(g *gate.Gate){reset, other}, picks, true)
		join(t, &waits)
		x.Reset()
		wants(t, "Totals", x.Totals().Values[0].Total.Lo, 5)
	}
}
