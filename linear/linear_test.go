package linear_test

import (
	"fmt"
	"math"
	"math/rand"
	"slices"
	"testing"

	"gnomon/api"
	"gnomon/drive"
	"gnomon/linear"
)

// Descriptions and calls, by their slots.

func counter(name string, l ...string) api.Desc { return desc(api.Counter, name, l...) }

func histogram(name string, l ...string) api.Desc { return desc(api.Histogram, name, l...) }

func summary(name string, l ...string) api.Desc { return desc(api.Summary, name, l...) }

// desc tells a description, with names and values of its labels by turns.
func desc(kind int, name string, l ...string) api.Desc {
	d := api.Desc{Kind: kind, Name: name}
	for i := 0; i < len(l); i += 2 {
		d.Labels = append(d.Labels, api.Label{Name: l[i], Value: l[i+1]})
	}
	return d
}

func register(d api.Desc, slot int) api.Call {
	return api.Call{Kind: api.CallRegister, Slot: slot, Desc: d}
}

func take(rec int) api.Call { return api.Call{Kind: api.CallRecorder, Rec: rec} }

func release(rec int) api.Call { return api.Call{Kind: api.CallRelease, Rec: rec} }

func add(slot, rec int, n int64) api.Call {
	return api.Call{Kind: api.CallAdd, Slot: slot, Rec: rec, N: n}
}

func observe(slot, rec int, n int64) api.Call {
	return api.Call{Kind: api.CallObserve, Slot: slot, Rec: rec, N: n}
}

func sample(slot, rec int, x float64) api.Call {
	return api.Call{Kind: api.CallSample, Slot: slot, Rec: rec, X: x}
}

var (
	reset  = api.Call{Kind: api.CallReset}
	totals = api.Call{Kind: api.CallTotals}
)

// config is that of the document's examples.
var config = api.Config{Stripes: 1, Precision: 1, Cells: 100}

// noPlaces name no call of any history.
var noPlaces = [][2]int{
	{-1, 0}, {0, -1}, {-1, -1}, {math.MinInt, 0}, {0, math.MinInt}, {math.MaxInt, 0}, {0, math.MaxInt}, {math.MinInt, math.MinInt}, {math.MaxInt, math.MaxInt},
	{1 << 32, 0}, {0, 1 << 32}, {100, 100}, {-1 << 32, 0},
}

// plays plays a script.
func plays(t *testing.T, c api.Config, s api.Script) api.History {
	t.Helper()
	h, e := drive.Run(c, s)
	if e != api.OK {
		t.Fatalf("Run(%+v, %+v): %v", c, s, e)
	}
	return h
}

// asked is what Fits is handed.
type asked struct {
	c api.Config
	s api.Script
	h api.History
}

// fits holds Fits to its telling that an order fits.
func (a asked) fits(t *testing.T, order ...[2]int) {
	t.Helper()
	a.tells(t, true, 0, order)
}

// wrong holds Fits to its telling the place at which an order doesn't fit.
func (a asked) wrong(t *testing.T, at int, order ...[2]int) {
	t.Helper()
	a.tells(t, false, at, order)
}

func (a asked) tells(t *testing.T, is bool, at int, order [][2]int) {
	t.Helper()
	if gotIs, gotAt := linear.Fits(a.c, a.s, a.h, order); gotIs != is || gotAt != at {
		t.Fatalf("%+v:\nthe order %v: %v, %d, not %v, %d", a, order, gotIs, gotAt, is, at)
	}
}

// with tells the same with one call's history changed.
func (a asked) with(call [2]int, change func(d *api.Done)) asked {
	a.h.Threads = slices.Clone(a.h.Threads)
	l := slices.Clone(a.h.Threads[call[0]])
	change(&l[call[1]])
	a.h.Threads[call[0]] = l
	return a
}

// told tells a snapshot of counters, as a Reset of the precision 1 tells it.
func told(refused uint64, d []api.Desc, n ...uint64) api.Snapshot {
	s := api.Snapshot{Precision: 1, Refused: refused}
	for i, n := range n {
		s.Values = append(s.Values, api.Value{Desc: d[i], Total: api.Int{Lo: n}})
	}
	return s
}

// c5 is what the Reset of the examples tells.
var c5 = told(0, []api.Desc{counter("c")}, 5)

// example is that of the document, by hand: a thread's Register, Recorder and Add, and another one's Reset, which tells the Add.
func example() asked {
	one := []api.Call{register(counter("c"), 0), take(0), add(0, 0, 5)}
	return asked{
		c: config,
		s: api.Script{Threads: [][]api.Call{one, {reset}}},
		h: api.History{Picks: 21, Threads: [][]api.Done{
			{{To: 3, Point: 2, Steps: 3, Ended: true}, {From: 3, To: 6, Point: 5, Steps: 3, Ended: true}, {From: 6, To: 10, Point: 8, Steps: 4, Ended: true}},
			{{To: 21, Point: 13, Steps: 11, Ended: true, Snapshot: c5}},
		}},
	}
}

// exampleOrder is in the order of the points.
var exampleOrder = [][2]int{{0, 0}, {0, 1}, {0, 2}, {1, 0}}

// P20.1: both answer as said, of every config, script, history and order.

func TestExamples(t *testing.T) {
	a := example()
	if got := linear.Order(a.h); !slices.Equal(got, exampleOrder) {
		t.Errorf("Order: %v", got)
	}
	a.fits(t, exampleOrder...)
	a.wrong(t, 2, [][2]int{{0, 0}, {0, 1}, {1, 0}, {0, 2}}...)
	a.wrong(t, 0, [2]int{0, 2})
	a.wrong(t, 1, [2]int{0, 0})
	a.wrong(t, 1, [][2]int{{0, 0}, {0, 0}}...)
	a.wrong(t, 0, [2]int{2, 0})
	a.wrong(t, 0)
}

// The history by hand is that which a script has.
func TestExampleIsPlayed(t *testing.T) {
	a := example()
	a.s.Picks, a.s.Drain = []int{0, 0, 0, 0, 0, 0, 0, 0, 0, 0, 1, 1, 1}, true
	h := plays(t, a.c, a.s)
	if got, want := fmt.Sprintf("%+v", h), fmt.Sprintf("%+v", a.h); got != want {
		t.Errorf("%s, not %s", got, want)
	}
}

// history tells one of calls with these points.
func history(points ...[]int) (h api.History) {
	for _, l := range points {
		var calls []api.Done
		for _, p := range l {
			calls = append(calls, api.Done{Point: p})
		}
		h.Threads = append(h.Threads, calls)
	}
	return h
}

func TestOrder(t *testing.T) {
	for _, c := range []struct {
		h    api.History
		want [][2]int
	}{
		{history(), nil},
		{api.History{Picks: 9}, nil},
		{history(nil, []int{}, nil), nil},
		{history([]int{0}, nil, []int{0, 0, -1, math.MinInt}), nil},
		{history([]int{1}), [][2]int{{0, 0}}},
		{history(nil, nil, []int{1}), [][2]int{{2, 0}}},
		{history([]int{0, 1}, []int{0, 0, 2}), [][2]int{{0, 1}, {1, 2}}},
		{history([]int{3, 9}, []int{1, 4}, nil, []int{2}), [][2]int{{1, 0}, {3, 0}, {0, 0}, {1, 1}, {0, 1}}},
		{history([]int{3, 2, 1}), [][2]int{{0, 2}, {0, 1}, {0, 0}}},
		// Of one Point: by thread, then by number.
		{history([]int{7, 7}, []int{7, 7}), [][2]int{{0, 0}, {0, 1}, {1, 0}, {1, 1}}},
		{history([]int{9, 7}, []int{7, 9, 1}, []int{7}), [][2]int{{1, 2}, {0, 1}, {1, 0}, {2, 0}, {0, 0}, {1, 1}}},
		{history([]int{math.MaxInt}, []int{1 << 32, math.MaxInt, -1}, []int{1}), [][2]int{{2, 0}, {1, 0}, {0, 0}, {1, 1}}},
		// More threads and calls than a script may have.
		{history(nil, nil, nil, nil, nil, nil, nil, nil, nil, nil, []int{2}, []int{1}), [][2]int{{11, 0}, {10, 0}}},
		{history(append(make([]int, 300), 1)), [][2]int{{0, 300}}},
	} {
		if got := linear.Order(c.h); !slices.Equal(got, c.want) {
			t.Errorf("Order(%+v): %v, not %v", c.h, got, c.want)
		}
	}
}

// Whatever else stands in a call doesn't matter to Order, its having ended neither.
func TestOrderGoesByPointsAlone(t *testing.T) {
	h := history([]int{5, 0}, []int{2, 9})
	h.Threads[0][0] = api.Done{Point: 5, E: api.ErrState, From: 100, To: 1, Steps: -1}
	h.Threads[0][1] = api.Done{From: 1, To: 9, Steps: 3, Ended: true}
	h.Threads[1][0] = api.Done{Point: 2, Ended: true, From: 7, N: 9, Polls: 4, Snapshot: c5}
	if got := linear.Order(h); !slices.Equal(got, [][2]int{{1, 0}, {0, 0}, {1, 1}}) {
		t.Errorf("Order: %v", got)
	}
}

// All that have a point stand there once, each two of them as they must.
func TestOrderOfMany(t *testing.T) {
	r := rand.New(rand.NewSource(201))
	for range 400 {
		points, above, upTo := make([][]int, r.Intn(12)), 0, 1+r.Intn(300)
		for th := range points {
			for range r.Intn(60) {
				p := r.Intn(upTo) - upTo/4
				points[th] = append(points[th], p)
				if p > 0 {
					above++
				}
			}
		}
		order := linear.Order(history(points...))
		if len(order) != above {
			t.Fatalf("%v: %d calls, not %d", points, len(order), above)
		}
		for i, b := range order {
			if p := points[b[0]][b[1]]; p <= 0 {
				t.Fatalf("%v: %v has the Point %d", points, b, p)
			}
			if i == 0 {
				continue
			}
			a := order[i-1]
			x, y := [3]int{points[a[0]][a[1]], a[0], a[1]}, [3]int{points[b[0]][b[1]], b[0], b[1]}
			if slices.Compare(x[:], y[:]) >= 0 {
				t.Fatalf("%v: %v stands ahead of %v", points, a, b)
			}
		}
	}
}

// Places that name no call, wherever they stand in an order that fits else.
func TestPlacesThatNameNoCall(t *testing.T) {
	a := example()
	for i := range len(exampleOrder) + 1 {
		for _, none := range append(slices.Clone(noPlaces), [2]int{2, 0}, [2]int{1, 1}, [2]int{0, 3}) {
			a.wrong(t, i, slices.Insert(slices.Clone(exampleOrder), i, none)...)
		}
	}
	asked{c: config}.wrong(t, 0, [2]int{0, 0})
	asked{c: config, h: api.History{Threads: [][]api.Done{nil, {}}}, s: api.Script{Threads: [][]api.Call{{totals}, {totals}}}}.wrong(t, 0, [2]int{1, 0})
}

// A call that the history has, and the script has not, or the other way round.
func TestPlacesOfOneAlone(t *testing.T) {
	a := example()
	a.h.Threads = append(a.h.Threads, []api.Done{{Ended: true, E: api.ErrKind}})
	a.wrong(t, 4, append(slices.Clone(exampleOrder), [2]int{2, 0})...)
	a.fits(t, exampleOrder...)
	a = example()
	a.h.Threads[0] = append(a.h.Threads[0], api.Done{From: 10, To: 10, Ended: true, E: api.ErrKind})
	a.wrong(t, 4, append(slices.Clone(exampleOrder), [2]int{0, 3})...)
	a.wrong(t, 3, slices.Insert(slices.Clone(exampleOrder), 3, [2]int{0, 3})...)
	a.fits(t, exampleOrder...)
	a = example()
	a.s.Threads = append(a.s.Threads, []api.Call{{Kind: 9}})
	a.s.Threads[1] = append(a.s.Threads[1], totals)
	a.fits(t, exampleOrder...)
	a.wrong(t, 4, append(slices.Clone(exampleOrder), [2]int{2, 0})...)
	a.wrong(t, 4, append(slices.Clone(exampleOrder), [2]int{1, 1})...)
	// A thread that the history has is another than that of the script.
	a = example()
	a.s.Threads = [][]api.Call{nil, a.s.Threads[0], a.s.Threads[1]}
	a.wrong(t, 0, exampleOrder...)
	a.wrong(t, 0, [2]int{1, 1})
}

// A call that an earlier place names, wherever that stands.
func TestCallsThatAreNamedTwice(t *testing.T) {
	a := example()
	for i, call := range exampleOrder {
		for at := i + 1; at <= len(exampleOrder); at++ {
			a.wrong(t, at, slices.Insert(slices.Clone(exampleOrder), at, call)...)
		}
	}
	// Nothing but its being named twice is wrong with such a one: the answer is the same each time.
	b := asked{c: config, s: api.Script{Threads: [][]api.Call{{totals}}}, h: api.History{Threads: [][]api.Done{{{Ended: true, Snapshot: told(0, nil)}}}}}
	b.fits(t, [2]int{0, 0})
	b.wrong(t, 1, [2]int{0, 0}, [2]int{0, 0})
	b.h.Threads[0][0] = api.Done{}
	b.wrong(t, 1, [2]int{0, 0}, [2]int{0, 0})
	// Threads and numbers are not to be taken for each other.
	three := []api.Call{{Kind: 9}, {Kind: 9}, {Kind: 9}}
	none := []api.Done{{E: api.ErrKind, Ended: true}, {E: api.ErrKind, Ended: true}, {E: api.ErrKind, Ended: true}}
	d := asked{c: config, s: api.Script{Threads: [][]api.Call{three, three, three}}, h: api.History{Threads: [][]api.Done{none, none, none}}}
	d.fits(t, [2]int{0, 0}, [2]int{0, 1}, [2]int{1, 0}, [2]int{2, 0}, [2]int{0, 2}, [2]int{1, 1}, [2]int{1, 2}, [2]int{2, 1}, [2]int{2, 2})
	d.wrong(t, 4, [2]int{0, 1}, [2]int{1, 0}, [2]int{1, 2}, [2]int{2, 1}, [2]int{1, 2})
}

// calls tells threads, each of one Totals and more, whose histories are handed in: so that nothing but time can be wrong.
func calls(h ...[]api.Done) asked {
	a := asked{c: config}
	for _, l := range h {
		a.s.Threads = append(a.s.Threads, slices.Repeat([]api.Call{totals}, len(l)))
		l = slices.Clone(l)
		for i := range l {
			if l[i].Ended {
				l[i].Snapshot = told(0, nil)
			}
		}
		a.h.Threads = append(a.h.Threads, l)
	}
	return a
}

// ended and under are calls from one pick to another one, that have ended and that have not.
func ended(from, to int) api.Done { return api.Done{From: from, To: to, Ended: true} }

func under(from, to int) api.Done { return api.Done{From: from, To: to} }

// A call of the same thread with a greater number, be there other calls between, and whether they have ended or not.
func TestTimeOfOneThread(t *testing.T) {
	for _, first := range []api.Done{ended(0, 0), under(0, 0), ended(0, math.MaxInt)} {
		for _, last := range []api.Done{ended(0, 0), under(0, 0)} {
			a := calls([]api.Done{first, ended(0, 0), last}, []api.Done{ended(0, 0), ended(0, 0)})
			a.fits(t, [2]int{0, 0}, [2]int{0, 1}, [2]int{0, 2})
			a.fits(t, [2]int{0, 0}, [2]int{0, 2})
			a.wrong(t, 1, [2]int{0, 1}, [2]int{0, 0})
			a.wrong(t, 1, [2]int{0, 2}, [2]int{0, 0})
			a.wrong(t, 2, [2]int{0, 0}, [2]int{0, 2}, [2]int{0, 1})
			a.wrong(t, 3, [2]int{0, 2}, [2]int{1, 0}, [2]int{1, 1}, [2]int{0, 0})
			a.wrong(t, 2, [2]int{0, 1}, [2]int{0, 2}, [2]int{0, 0})
			// Another thread's greater number doesn't matter.
			a.fits(t, [2]int{1, 0}, [2]int{1, 1}, [2]int{0, 0}, [2]int{0, 1})
			a.fits(t, [2]int{0, 2}, [2]int{1, 0}, [2]int{1, 1})
		}
	}
}

// A call that began when more picks had been than when this one ended.
func TestTimeOfSeveralThreads(t *testing.T) {
	early, late := [2]int{0, 0}, [2]int{1, 0}
	for _, c := range []struct {
		to, from int
		lets     bool
	}{
		{5, 4, true}, {5, 5, true}, {5, 6, false}, {0, 0, true}, {0, 1, false}, {-1, 0, false}, {0, -1, true}, {5, 1<<32 + 4, false}, {1<<32 + 4, 5, true},
		{math.MinInt, math.MaxInt, false}, {math.MaxInt, math.MinInt, true}, {math.MaxInt, math.MaxInt, true}, {math.MinInt, math.MinInt, true},
		{math.MinInt, math.MinInt + 1, false}, {math.MaxInt - 1, math.MaxInt, false},
	} {
		// Whether the one that began later has ended doesn't matter; whether the other one has does.
		for _, last := range []api.Done{ended(c.from, math.MaxInt), under(c.from, math.MaxInt)} {
			a := calls([]api.Done{ended(math.MinInt, c.to)}, []api.Done{last})
			a.fits(t, early, late)
			if c.lets {
				a.fits(t, late, early)
			} else {
				a.wrong(t, 1, late, early)
			}
			calls([]api.Done{under(math.MinInt, c.to)}, []api.Done{last}).fits(t, late, early)
		}
	}
}

// All earlier places count, not the last one alone; those of the same thread do, too; the place itself doesn't.
func TestTimeOfAllEarlierPlaces(t *testing.T) {
	a := calls([]api.Done{ended(10, 20)}, []api.Done{ended(0, 20)}, []api.Done{ended(3, 5)}, []api.Done{ended(0, 10)})
	a.wrong(t, 2, [2]int{0, 0}, [2]int{1, 0}, [2]int{2, 0})
	a.wrong(t, 1, [2]int{0, 0}, [2]int{2, 0}, [2]int{1, 0})
	a.fits(t, [2]int{1, 0}, [2]int{2, 0}, [2]int{0, 0})
	a.fits(t, [2]int{2, 0}, [2]int{0, 0}, [2]int{1, 0}, [2]int{3, 0})
	a.wrong(t, 3, [2]int{0, 0}, [2]int{3, 0}, [2]int{1, 0}, [2]int{2, 0})
	calls([]api.Done{ended(10, 20), ended(0, 5)}).wrong(t, 1, [2]int{0, 0}, [2]int{0, 1})
	calls([]api.Done{ended(10, 20), ended(20, 5)}).fits(t, [2]int{0, 1})
	calls([]api.Done{ended(10, 5)}).fits(t, [2]int{0, 0})
	calls([]api.Done{under(10, 20), under(0, 5)}).fits(t, [2]int{0, 0}, [2]int{0, 1})
}

// Each of what a call answers, if it has ended: another error, number or snapshot is wrong at its place.
func TestAnswers(t *testing.T) {
	a := example()
	changes := []func(d *api.Done){
		func(d *api.Done) { d.E = api.ErrState },
		func(d *api.Done) { d.E = 99 },
		func(d *api.Done) { d.E = -1 },
		func(d *api.Done) { d.N = 1 },
		func(d *api.Done) { d.N = math.MinInt },
		func(d *api.Done) { d.Snapshot.Precision = 2 },
		func(d *api.Done) { d.Snapshot.Refused = 1 },
		func(d *api.Done) { d.Snapshot.Values = []api.Value{{}} },
		func(d *api.Done) { d.Snapshot = told(0, []api.Desc{counter("c")}, 6) },
		func(d *api.Done) { d.Snapshot = told(0, []api.Desc{counter("d")}, 5) },
		func(d *api.Done) { d.Snapshot = told(0, []api.Desc{counter("c"), counter("c")}, 5, 5) },
	}
	for i, call := range exampleOrder {
		for _, change := range changes {
			b := a.with(call, change)
			b.wrong(t, i, exampleOrder...)
			// What one that has not ended would answer doesn't matter.
			b.with(call, func(d *api.Done) { d.Ended = false }).fits(t, exampleOrder...)
		}
	}
	// Nor does when it was done, and with how many polls.
	for _, call := range exampleOrder {
		a.with(call, func(d *api.Done) { d.Point, d.Polls, d.Steps = 99, -5, 1<<40 }).fits(t, exampleOrder...)
	}
	a.h.Picks, a.s.Picks, a.s.Drain = -7, []int{5, 5, 5}, true
	a.fits(t, exampleOrder...)
}

// Snapshots are held against each other by snap.Same: floats bit by bit, lists whether nil or not.
func TestSnapshotsThatAreTheSame(t *testing.T) {
	minusZero := math.Copysign(0, -1)
	d := []api.Desc{histogram("h", "a", "x"), summary("s")}
	l := []api.Call{register(d[0], 0), register(d[1], 1), take(0), observe(0, 0, 5), sample(1, 0, minusZero), reset}
	a := asked{c: api.Config{Stripes: 1, Precision: 1, Cells: 300}, s: api.Script{Threads: [][]api.Call{l}, Drain: true}}
	a.h = plays(t, a.c, a.s)
	order := linear.Order(a.h)
	a.fits(t, order...)
	last := [2]int{0, 5}
	same := func() api.Snapshot {
		return api.Snapshot{Precision: 1, Values: []api.Value{
			{Desc: histogram("h", "a", "x"), Total: api.Int{Lo: 5}, Counts: []api.Count{{Index: 4, N: 1}}, N: 1},
			{Desc: api.Desc{Kind: api.Summary, Name: "s", Labels: []api.Label{}}, Counts: []api.Count{}, N: 1, Min: minusZero, Max: minusZero},
		}}
	}
	a.with(last, func(d *api.Done) { d.Snapshot = same() }).fits(t, order...)
	for i, change := range []func(v []api.Value){
		func(v []api.Value) { v[1].Sum = minusZero },
		func(v []api.Value) { v[1].Min = 0 },
		func(v []api.Value) { v[1].Max = math.NaN() },
		func(v []api.Value) { v[1].N = 2 },
		func(v []api.Value) { v[0].Sum = minusZero },
		func(v []api.Value) { v[0].Counts[0].N = 2 },
		func(v []api.Value) { v[0].Counts = nil },
		func(v []api.Value) { v[0].Total.Hi = 1 },
		func(v []api.Value) { v[0].Desc.Help = "x" },
		func(v []api.Value) { v[0].Desc.Labels[0].Value = "y" },
		func(v []api.Value) { v[0], v[1] = v[1], v[0] },
	} {
		s := same()
		change(s.Values)
		if is, at := linear.Fits(a.c, a.s, a.with(last, func(d *api.Done) { d.Snapshot = s }).h, order); is || at != 5 {
			t.Errorf("change %d: %v, %d", i, is, at)
		}
	}
}

// What the calls up to a place came to is what it is answered by: what stands behind it doesn't matter, and what isn't named was not done.
func TestAnswersHangOnEarlierPlaces(t *testing.T) {
	d := []api.Desc{counter("c")}
	one := []api.Call{register(d[0], 0), take(0), add(0, 0, 5)}
	two := []api.Call{take(0), add(0, 0, 7), release(0)}
	for _, x := range []struct {
		stripes [2]int // which threads 0 and 1 are told
		sum     uint64 // what the Reset tells, and so the Totals
		order   [][2]int
	}{
		{[2]int{0, 1}, 12, [][2]int{{0, 0}, {0, 1}, {1, 0}, {0, 2}, {1, 1}, {2, 0}, {1, 2}, {2, 1}}},
		{[2]int{0, 1}, 5, [][2]int{{0, 0}, {0, 1}, {1, 0}, {0, 2}, {2, 0}, {1, 1}, {2, 1}, {1, 2}}},
		{[2]int{0, 1}, 7, [][2]int{{0, 0}, {0, 1}, {1, 0}, {1, 1}, {2, 0}, {2, 1}, {1, 2}, {0, 2}}},
		{[2]int{0, 1}, 0, [][2]int{{0, 0}, {0, 1}, {1, 0}, {2, 0}, {0, 2}, {1, 1}, {2, 1}, {1, 2}}},
		{[2]int{1, 0}, 12, [][2]int{{1, 0}, {0, 0}, {0, 1}, {0, 2}, {1, 1}, {2, 0}, {1, 2}, {2, 1}}},
		{[2]int{0, 0}, 7, [][2]int{{0, 0}, {1, 0}, {1, 1}, {1, 2}, {0, 1}, {2, 0}, {0, 2}, {2, 1}}},
	} {
		a := asked{
			c: api.Config{Stripes: 2, Precision: 1, Cells: 100},
			s: api.Script{Threads: [][]api.Call{one, two, {reset, totals}}},
			h: api.History{Threads: [][]api.Done{
				{{Ended: true}, {Ended: true, N: x.stripes[0]}, {Ended: true}},
				{{Ended: true, N: x.stripes[1]}, {Ended: true}, {Ended: true}},
				{{Ended: true, Snapshot: told(0, d, x.sum)}, {Ended: true, Snapshot: told(0, d, x.sum)}},
			}},
		}
		a.fits(t, x.order...)
		at := slices.Index(x.order, [2]int{2, 0})
		a.with([2]int{2, 0}, func(done *api.Done) { done.Snapshot = told(0, d, x.sum+1) }).wrong(t, at, x.order...)
		if i := slices.Index(x.order, [2]int{0, 2}); i < at {
			a.wrong(t, at-1, slices.Delete(slices.Clone(x.order), i, i+1)...)
		} else {
			a.fits(t, slices.Delete(slices.Clone(x.order), i, i+1)...)
		}
	}
}

// Calls that have not ended are done, too, if they are named: those behind them see it.
func TestCallsThatHaveNotEnded(t *testing.T) {
	cut := func(d *api.Done) { *d = api.Done{From: d.From, To: 21, Steps: 2} }
	// An Add that the Reset tells, or not, by their order.
	a := example().with([2]int{0, 2}, cut)
	a.fits(t, exampleOrder...)
	a.wrong(t, 2, [2]int{0, 0}, [2]int{0, 1}, [2]int{1, 0})
	a.wrong(t, 2, [2]int{0, 0}, [2]int{0, 1}, [2]int{1, 0}, [2]int{0, 2})
	b := a.with([2]int{1, 0}, func(d *api.Done) { d.Snapshot = told(0, []api.Desc{counter("c")}, 0) })
	b.wrong(t, 3, exampleOrder...)
	b.fits(t, [2]int{0, 0}, [2]int{0, 1}, [2]int{1, 0})
	b.fits(t, [2]int{0, 0}, [2]int{0, 1}, [2]int{1, 0}, [2]int{0, 2})
	// A Register and a Recorder that a record needs: without them it is answered otherwise.
	for _, i := range []int{0, 1} {
		a = example().with(exampleOrder[i], cut)
		a.fits(t, exampleOrder...)
		a.wrong(t, 1, slices.Delete(slices.Clone(exampleOrder), i, i+1)...)
	}
	// A Reset, that the next one tells nothing behind; a Release, that makes its stripe free.
	l := []api.Call{register(counter("c"), 0), take(0), add(0, 0, 5), release(0)}
	c := asked{c: config, s: api.Script{Threads: [][]api.Call{l, {reset}, {take(3)}, {reset}}}, h: api.History{Threads: [][]api.Done{
		{{Ended: true}, {Ended: true}, {Ended: true}, {}}, {{}}, {{Ended: true}}, {{Ended: true, Snapshot: told(0, []api.Desc{counter("c")}, 0)}},
	}}}
	c.fits(t, [2]int{0, 0}, [2]int{0, 1}, [2]int{0, 2}, [2]int{0, 3}, [2]int{1, 0}, [2]int{2, 0}, [2]int{3, 0})
	c.wrong(t, 3, [2]int{0, 0}, [2]int{0, 1}, [2]int{0, 2}, [2]int{2, 0}, [2]int{0, 3})
	c.wrong(t, 4, [2]int{0, 0}, [2]int{0, 1}, [2]int{0, 2}, [2]int{0, 3}, [2]int{3, 0}, [2]int{1, 0})
	c.fits(t, [2]int{0, 0}, [2]int{0, 1}, [2]int{3, 0}, [2]int{0, 2}, [2]int{0, 3}, [2]int{2, 0})
}

// What layer 19 refuses by itself is refused here likewise, where it is named; no order must name it.
func TestWhatIsRefusedWithoutAStep(t *testing.T) {
	refused := []struct {
		c api.Call
		e api.Errno
	}{
		{api.Call{Kind: 0}, api.ErrKind}, {api.Call{Kind: 9}, api.ErrKind}, {api.Call{Kind: -1}, api.ErrKind}, {api.Call{Kind: math.MaxInt}, api.ErrKind},
		{register(counter("d"), 16), api.ErrRange}, {register(api.Desc{}, -1), api.ErrRange}, {register(api.Desc{}, 0), api.ErrKind}, {register(counter("c_sum"), 0), api.ErrName},
		{take(16), api.ErrRange}, {take(-1), api.ErrRange}, {take(0), api.ErrState}, {release(16), api.ErrRange}, {release(1), api.ErrAbsent},
		{add(16, 0, 1), api.ErrRange}, {add(0, math.MinInt, 1), api.ErrRange}, {add(1, 0, 1), api.ErrAbsent}, {add(0, 1, 1), api.ErrAbsent},
		{observe(1, 0, 1), api.ErrAbsent}, {sample(0, 15, 1), api.ErrAbsent}, {sample(0, -16, 1), api.ErrRange},
	}
	for _, x := range refused {
		a := example()
		a.s.Threads[0] = append(a.s.Threads[0], x.c)
		a.h.Threads[0] = append(a.h.Threads[0], api.Done{E: x.e, From: 10, To: 10, Ended: true})
		a.fits(t, exampleOrder...)
		for at := 3; at <= 4; at++ {
			a.fits(t, slices.Insert(slices.Clone(exampleOrder), at, [2]int{0, 3})...)
			a.with([2]int{0, 3}, func(d *api.Done) { d.E = api.OK }).wrong(t, at, slices.Insert(slices.Clone(exampleOrder), at, [2]int{0, 3})...)
		}
	}
	// A record that is told there is no such instrument stands ahead of the Register alone, or is not named.
	a := example()
	a.s.Threads = append(a.s.Threads, []api.Call{add(0, 0, 1)})
	a.h.Threads = append(a.h.Threads, []api.Done{{E: api.ErrAbsent, Ended: true}})
	a.fits(t, exampleOrder...)
	a.fits(t, slices.Insert(slices.Clone(exampleOrder), 0, [2]int{2, 0})...)
	a.fits(t, slices.Insert(slices.Clone(exampleOrder), 1, [2]int{2, 0})...)
	a.s.Threads[2] = []api.Call{take(0), add(0, 0, 1)}
	a.c.Stripes = 2
	a.h.Threads[2] = []api.Done{{N: 0, Ended: true}, {E: api.ErrAbsent, Ended: true}}
	a = a.with([2]int{0, 1}, func(d *api.Done) { d.N = 1 })
	a.fits(t, [2]int{2, 0}, [2]int{2, 1}, [2]int{0, 0}, [2]int{0, 1}, [2]int{0, 2}, [2]int{1, 0})
	a.wrong(t, 2, [2]int{2, 0}, [2]int{0, 0}, [2]int{2, 1}, [2]int{0, 1}, [2]int{0, 2}, [2]int{1, 0})
}

// Slots for instruments are shared by all threads, and keep the first number; those for recorders are each thread's own.
func TestSlotsOfAnOrder(t *testing.T) {
	d := []api.Desc{counter("a"), counter("b")}
	one, two := []api.Call{register(d[0], 0), take(0), add(0, 0, 1)}, []api.Call{register(d[1], 0), take(0), add(0, 0, 20)}
	a := asked{c: api.Config{Stripes: 2, Precision: 1, Cells: 100}, s: api.Script{Threads: [][]api.Call{one, two, {reset}}}}
	forth := [][2]int{{0, 0}, {1, 0}, {0, 1}, {1, 1}, {0, 2}, {1, 2}, {2, 0}}
	back := [][2]int{{1, 0}, {0, 0}, {0, 1}, {1, 1}, {0, 2}, {1, 2}, {2, 0}}
	rest := []api.Done{{Ended: true}, {Ended: true}}
	other := []api.Done{{Ended: true, N: 1}, {Ended: true}}
	a.h.Threads = [][]api.Done{append([]api.Done{{Ended: true, N: 0}}, rest...), append([]api.Done{{Ended: true, N: 1}}, other...), {{Ended: true, Snapshot: told(0, d, 21, 0)}}}
	a.fits(t, forth...)
	a.wrong(t, 0, back...)
	a.h.Threads = [][]api.Done{append([]api.Done{{Ended: true, N: 1}}, rest...), append([]api.Done{{Ended: true, N: 0}}, other...), {{Ended: true, Snapshot: told(0, d, 0, 21)}}}
	a.fits(t, back...)
	a.wrong(t, 0, forth...)
}

// The rest: each call that has ended and has done a step is named.
func TestCallsThatAreLeftOut(t *testing.T) {
	// All but the last: what stands ahead is answered the same.
	a := example()
	for n := range len(exampleOrder) {
		a.wrong(t, n, exampleOrder[:n]...)
	}
	one := [2]int{0, 0}
	for _, x := range []struct {
		d    api.Done
		must bool
	}{
		{api.Done{Ended: true, Steps: 1}, true}, {api.Done{Ended: true, Steps: math.MaxInt}, true}, {api.Done{Ended: true, Steps: 3, E: api.ErrFull}, true}, {api.Done{Ended: true, Steps: 1, Point: 0}, true},
		{api.Done{Ended: true, Steps: 0}, false}, {api.Done{Ended: true, Steps: -1}, false}, {api.Done{Ended: true, Steps: math.MinInt}, false}, {api.Done{Ended: true, Point: 7, Polls: 3}, false},
		{api.Done{Steps: 1, Point: 1}, false}, {api.Done{Steps: math.MaxInt}, false}, {api.Done{}, false},
	} {
		// Whichever thread it is of, whether the script has it or not, whether it is the only one.
		for th := range 3 {
			for _, s := range []api.Script{{}, {Threads: [][]api.Call{{{Kind: 9}}, {{Kind: 9}}, {{Kind: 9}}, {{Kind: 9}}}}} {
				b := asked{c: config, s: s, h: api.History{Threads: make([][]api.Done, 4)}}
				b.h.Threads[th] = []api.Done{x.d}
				if !x.must {
					b.fits(t)
					continue
				}
				b.wrong(t, 0)
			}
		}
		b := example()
		b.h.Threads[1] = append(b.h.Threads[1], x.d)
		if x.must {
			b.wrong(t, 4, exampleOrder...)
		} else {
			b.fits(t, exampleOrder...)
		}
	}
	// One that must be named stands ahead of others that are.
	b := calls([]api.Done{{Ended: true, Steps: 3}, {Ended: true, Steps: 3}})
	b.wrong(t, 1, [2]int{0, 1})
	b.wrong(t, 1, one)
	b.fits(t, one, [2]int{0, 1})
}

// The first wrong place is told, whichever of the three things is wrong there, and at later ones.
func TestTheFirstWrongPlace(t *testing.T) {
	// Threads 0 and 1 may be named in any order, 2 is answered otherwise, 3 has ended ahead of the beginning of 4; {9, 9} is none.
	a := calls([]api.Done{ended(0, 9)}, []api.Done{ended(0, 9)}, []api.Done{ended(0, 9)}, []api.Done{ended(0, 1)}, []api.Done{ended(2, 9)})
	a.h.Threads[2][0].E = api.ErrFull
	none, other, early, late := [2]int{9, 9}, [2]int{2, 0}, [2]int{3, 0}, [2]int{4, 0}
	good := [][2]int{late, {0, 0}, {1, 0}}
	bad := [][2]int{none, early, other, late}
	a.fits(t, good...)
	for at := 1; at <= len(good); at++ {
		for _, first := range bad {
			for _, then := range bad {
				a.wrong(t, at, slices.Insert(slices.Clone(good), at, first, then)...)
			}
		}
	}
	// Several things wrong with one place: a call that is named again, out of its thread's order, and too late, and answered otherwise.
	b := calls([]api.Done{ended(0, 0), ended(5, 9)})
	b.wrong(t, 2, [2]int{0, 0}, [2]int{0, 1}, [2]int{0, 0})
	b.wrong(t, 1, [2]int{0, 1}, [2]int{0, 0}, none)
	b.h.Threads[0][0].N = 9
	b.wrong(t, 1, [2]int{0, 1}, [2]int{0, 0}, none)
	b.wrong(t, 0, [2]int{0, 0}, [2]int{0, 1})
	// A wrong place is told ahead of what is left out.
	c := example()
	c.wrong(t, 1, [2]int{0, 0}, none)
	c.wrong(t, 1, [2]int{0, 0}, [2]int{0, 2})
}

// A registry that can't be made: the first place is wrong; without places it doesn't matter.
func TestConfigs(t *testing.T) {
	may := 0
	for _, stripes := range []int{math.MinInt, -1, 0, 1, 16, 17, 1<<32 + 1, math.MaxInt} {
		for _, p := range []int{math.MinInt, -1, 0, 1, 14, 15, 1<<32 + 1, math.MaxInt} {
			for _, cells := range []int{math.MinInt, -1, 0, 1, 1048576, 1048577, 1<<32 + 1, math.MaxInt} {
				c := api.Config{Stripes: stripes, Precision: p, Cells: cells}
				a := asked{c: c, s: api.Script{Threads: [][]api.Call{{{Kind: 9}}, {totals}}}}
				asked{c: c}.fits(t)
				a.h.Threads = [][]api.Done{{{E: api.ErrKind, Ended: true}}, {{}}}
				a.fits(t)
				if stripes >= 1 && stripes <= 16 && p >= 1 && p <= 14 && cells >= 1 && cells <= 1048576 {
					may++
					a.fits(t, [2]int{0, 0}, [2]int{1, 0})
				} else {
					a.wrong(t, 0, [2]int{0, 0})
					a.wrong(t, 0, [2]int{1, 0}, [2]int{0, 0})
					a.wrong(t, 0, [2]int{9, 0})
				}
				a.h.Threads[0][0].Steps = 1
				a.wrong(t, 0)
			}
		}
	}
	if may != 8 {
		t.Errorf("%d configs may be", may)
	}
}

// The config is that of the registry: what its stripes, precision and cells let be.
func TestTheConfigCounts(t *testing.T) {
	s := api.Script{Threads: [][]api.Call{{register(counter("c"), 0), register(counter("d"), 1), take(0), take(1), reset}}, Drain: true}
	order := [][2]int{{0, 0}, {0, 1}, {0, 2}, {0, 3}, {0, 4}}
	small := asked{c: api.Config{Stripes: 1, Precision: 1, Cells: 4}, s: s}
	small.h = plays(t, small.c, s)
	small.fits(t, order...)
	for _, x := range []struct {
		c  api.Config
		at int
	}{
		{api.Config{Stripes: 1, Precision: 1, Cells: 3}, 0}, {api.Config{Stripes: 1, Precision: 1, Cells: 7}, -1}, {api.Config{Stripes: 1, Precision: 1, Cells: 8}, 1},
		{api.Config{Stripes: 2, Precision: 1, Cells: 8}, 3}, {api.Config{Stripes: 1, Precision: 2, Cells: 4}, 4},
	} {
		small.c = x.c
		if x.at < 0 {
			small.fits(t, order...)
		} else {
			small.wrong(t, x.at, order...)
		}
	}
}

// Nothing at all fits; so does what is there and was never begun.
func TestNothing(t *testing.T) {
	asked{}.fits(t)
	asked{c: config}.fits(t, [][2]int{}...)
	asked{s: api.Script{Threads: [][]api.Call{{totals}}}}.fits(t)
	asked{c: config, h: api.History{Threads: make([][]api.Done, 20)}}.fits(t)
}

// Scripts, histories and orders of more threads and calls than drive.Run takes.
func TestMoreThanDriveTakes(t *testing.T) {
	a := asked{c: api.Config{Stripes: 16, Precision: 1, Cells: 1000}}
	first := []api.Call{register(counter("c"), 0)}
	a.s.Threads, a.h.Threads = [][]api.Call{first}, [][]api.Done{{{Ended: true, Steps: 1}}}
	order := [][2]int{{0, 0}}
	for th := 1; th <= 20; th++ {
		a.s.Threads = append(a.s.Threads, append([]api.Call{take(0)}, slices.Repeat([]api.Call{add(0, 0, 1)}, 300)...))
		done := api.Done{N: th - 1, Steps: 1, Ended: true}
		e := api.OK
		if th > 16 {
			done, e = api.Done{E: api.ErrFull, Steps: 1, Ended: true}, api.ErrAbsent
		}
		a.h.Threads = append(a.h.Threads, append([]api.Done{done}, slices.Repeat([]api.Done{{E: e, Steps: 1, Ended: true}}, 300)...))
		order = append(order, [2]int{th, 0})
	}
	for i := range 300 {
		for th := 20; th >= 1; th-- {
			order = append(order, [2]int{th, i + 1})
		}
	}
	a.s.Threads = append(a.s.Threads, []api.Call{reset})
	a.h.Threads = append(a.h.Threads, []api.Done{{Ended: true, Snapshot: told(0, []api.Desc{counter("c")}, 16*300)}})
	order = append(order, [2]int{21, 0})
	a.s.Picks = make([]int, api.MaxPicks+1)
	a.fits(t, order...)
	a.wrong(t, len(order)-2, slices.Delete(slices.Clone(order), 400, 401)...)
	a.with([2]int{7, 300}, func(d *api.Done) { d.E = api.ErrState }).wrong(t, slices.Index(order, [2]int{7, 300}), order...)
	if _, e := drive.Run(a.c, a.s); e != api.ErrMany {
		t.Errorf("Run: %v", e)
	}
}
