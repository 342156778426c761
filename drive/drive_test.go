package drive_test

import (
	"fmt"
	"math"
	"slices"
	"strings"
	"testing"

	"gnomon/api"
	"gnomon/drive"
	"gnomon/registry"
)

const (
	greatest = math.MaxInt64
	least    = math.MinInt64
)

var (
	minusZero = math.Copysign(0, -1)
	inf       = math.Inf(1)
	nan       = math.NaN()
)

// recordKinds are the calls that record, in the order of the kinds of instruments.
var recordKinds = []int{api.CallAdd, api.CallObserve, api.CallSample}

// noKinds are none of calls.
var noKinds = []int{0, 9, 10, -1, -8, 15, 255, 256, 257, 1<<32 + 1, math.MaxInt, math.MinInt}

// noSlots are none.
var noSlots = []int{-1, 16, -2, -16, 17, 31, 255, 256, 1 << 16, 1 << 32, 1<<32 + 1, math.MaxInt, math.MinInt, math.MinInt + 1}

// labels tells names and values by turns as labels.
func labels(l ...string) (out []api.Label) {
	for i := 0; i < len(l); i += 2 {
		out = append(out, api.Label{Name: l[i], Value: l[i+1]})
	}
	return out
}

func desc(kind int, name string, l ...string) api.Desc {
	return api.Desc{Kind: kind, Name: name, Labels: labels(l...)}
}

func counter(name string, l ...string) api.Desc { return desc(api.Counter, name, l...) }

func histogram(name string, l ...string) api.Desc { return desc(api.Histogram, name, l...) }

func summary(name string, l ...string) api.Desc { return desc(api.Summary, name, l...) }

// Calls, by their slots.

func register(d api.Desc, slot int) api.Call {
	return api.Call{Kind: api.CallRegister, Slot: slot, Desc: d}
}

func take(rec int) api.Call { return api.Call{Kind: api.CallRecorder, Rec: rec} }

func release(rec int) api.Call { return api.Call{Kind: api.CallRelease, Rec: rec} }

func add(slot, rec int, n int64) api.Call {
	return api.Call{Kind: api.CallAdd, Slot: slot, Rec: rec, N: n}
}

func observe(slot, rec int, n int64) api.Call {
	return api.Call{Kind: api.CallObserve, Slot: slot, Rec: rec, N: n}
}

func sample(slot, rec int, x float64) api.Call {
	return api.Call{Kind: api.CallSample, Slot: slot, Rec: rec, X: x}
}

var (
	reset  = api.Call{Kind: api.CallReset}
	totals = api.Call{Kind: api.CallTotals}
)

// same tells whether two things are told alike: of floats that means bit by bit, and a list without elements is one, nil or not.
func same(a, b any) bool { return fmt.Sprintf("%+v", a) == fmt.Sprintf("%+v", b) }

// wants holds a thing against another one.
func wants(t *testing.T, what, got, want any) {
	t.Helper()
	if !same(got, want) {
		t.Fatalf("%+v:\n%+v, not\n%+v", what, got, want)
	}
}

// plays plays a script that may be.
func plays(t *testing.T, c api.Config, s api.Script) api.History {
	t.Helper()
	h, e := drive.Run(c, s)
	if e != api.OK {
		t.Fatalf("Run(%+v, %+v): %v", c, s, e)
	}
	return h
}

// drained plays threads without picks, to their ends.
func drained(t *testing.T, c api.Config, threads ...[]api.Call) api.History {
	t.Helper()
	return plays(t, c, api.Script{Threads: threads, Drain: true})
}

// refuses plays a script that may not be: no history is told beside the error.
func refuses(t *testing.T, what string, c api.Config, s api.Script, want api.Errno) {
	t.Helper()
	h, e := drive.Run(c, s)
	if e != want || h.Threads != nil || h.Picks != 0 {
		t.Errorf("%s: %v, not %v; %d threads, %d picks", what, e, want, len(h.Threads), h.Picks)
	}
}

// answers tells what the calls answered: E, N and Snapshot alone.
func answers(l []api.Done) (out []api.Done) {
	for _, d := range l {
		out = append(out, answer(d))
	}
	return out
}

func answer(d api.Done) api.Done { return api.Done{E: d.E, N: d.N, Snapshot: d.Snapshot} }

// errors tells the calls' errors.
func errors(l []api.Done) (out []api.Errno) {
	for _, d := range l {
		out = append(out, d.E)
	}
	return out
}

// times tells a list so many times over.
func times(n int, picks ...int) []int { return slices.Repeat(picks, n) }

// counts tells a snapshot of counters.
func counts(p int, refused uint64, d []api.Desc, totals ...uint64) api.Snapshot {
	s := api.Snapshot{Precision: p, Refused: refused}
	for i, n := range totals {
		s.Values = append(s.Values, api.Value{Desc: d[i], Total: api.Int{Lo: n}})
	}
	return s
}

// example is the config of the document's examples; exampleCalls are those of the first one.
var example = api.Config{Stripes: 1, Precision: 1, Cells: 100}

func exampleCalls() []api.Call {
	return []api.Call{register(counter("c"), 0), take(0), add(0, 0, 5), reset}
}

// P19.1: Run answers as said, of every script.

func TestExampleOfOneThread(t *testing.T) {
	h := drained(t, example, exampleCalls())
	wants(t, "history", h, api.History{Picks: 21, Threads: [][]api.Done{{
		{From: 0, To: 3, Point: 2, Steps: 3, Ended: true},
		{From: 3, To: 6, Point: 5, Steps: 3, Ended: true},
		{From: 6, To: 10, Point: 8, Steps: 4, Ended: true},
		{From: 10, To: 21, Point: 13, Steps: 11, Ended: true, Snapshot: counts(1, 0, []api.Desc{counter("c")}, 5)},
	}}})
}

func TestExampleOfLettingGo(t *testing.T) {
	h := plays(t, example, api.Script{Threads: [][]api.Call{exampleCalls()}, Picks: []int{0, 0}})
	wants(t, "history", h, api.History{Picks: 2, Threads: [][]api.Done{{{To: 2, Point: 2, Steps: 2}}}})
}

func TestExampleOfWhatIsRefused(t *testing.T) {
	h := drained(t, example, []api.Call{add(0, 0, 5)})
	wants(t, "Add", h, api.History{Threads: [][]api.Done{{{E: api.ErrAbsent, Ended: true}}}})
	h = drained(t, example, []api.Call{{Kind: 9}})
	wants(t, "kind 9", h, api.History{Threads: [][]api.Done{{{E: api.ErrKind, Ended: true}}}})
	refuses(t, "no threads", example, api.Script{}, api.ErrArg)
}

// The document's first example of the whole: threads 1 and 2 add 5 and 7; a Reset behind them tells 12, one more 0, the totals 12.
func TestExampleOfTwoThreads(t *testing.T) {
	c := api.Config{Stripes: 2, Precision: 1, Cells: 100}
	reader := []api.Call{register(counter("c"), 0), reset, reset, totals}
	one, two := []api.Call{take(0), add(0, 0, 5)}, []api.Call{take(0), add(0, 0, 7)}
	picks := slices.Concat(times(3, 0), times(7, 1), times(7, 2), times(100, 0))
	h := plays(t, c, api.Script{Threads: [][]api.Call{reader, one, two}, Picks: picks})
	d := []api.Desc{counter("c")}
	wants(t, "the reader", answers(h.Threads[0]), []api.Done{{}, {Snapshot: counts(1, 0, d, 12)}, {Snapshot: counts(1, 0, d, 0)}, {Snapshot: counts(1, 0, d, 12)}})
	wants(t, "stripes", []int{h.Threads[1][0].N, h.Threads[2][0].N}, []int{0, 1})
}

// The second one: an Add that rests behind its Load of A holds a Reset up, which tells it, and not the other thread's.
func TestExampleOfAThreadThatRests(t *testing.T) {
	c := api.Config{Stripes: 2, Precision: 1, Cells: 100}
	one := []api.Call{register(counter("c"), 0), take(0), add(0, 0, 5)}
	two := []api.Call{take(0), add(0, 0, 7)}
	picks := slices.Concat(times(8, 0), times(3, 1), times(8, 2), times(4, 1), times(1, 2), times(2, 0), times(8, 2))
	h := plays(t, c, api.Script{Threads: [][]api.Call{one, two, {reset}}, Picks: picks})
	wants(t, "the first Add", h.Threads[0][2], api.Done{From: 6, To: 26, Point: 8, Steps: 4, Ended: true})
	wants(t, "the other Add", h.Threads[1][1], api.Done{From: 11, To: 23, Point: 21, Steps: 4, Ended: true})
	wants(t, "the Reset", h.Threads[2], []api.Done{{From: 0, To: 33, Point: 14, Steps: 16, Polls: 3, Ended: true, Snapshot: counts(1, 0, []api.Desc{counter("c")}, 5)}})
}

// The third one: a registry of one stripe.
func TestExampleOfOneStripe(t *testing.T) {
	h := drained(t, example, []api.Call{take(0), take(1), release(0), take(1), take(0)})
	wants(t, "errors", errors(h.Threads[0]), []api.Errno{api.OK, api.ErrFull, api.OK, api.OK, api.ErrFull})
}

// The fourth and the seventh one: a sum keeps what rounding lost; floats that may not be are counted.
func TestExampleOfFloats(t *testing.T) {
	d := summary("s")
	h := drained(t, example, []api.Call{
		register(d, 0), take(0), sample(0, 0, 1e16), sample(0, 0, 1), sample(0, 0, -1e16), sample(0, 0, nan), sample(0, 0, 0x1p961), reset,
	})
	wants(t, "errors", errors(h.Threads[0]), []api.Errno{0, 0, 0, 0, 0, api.ErrRange, api.ErrRange, 0})
	wants(t, "Reset", h.Threads[0][7].Snapshot, api.Snapshot{Precision: 1, Refused: 2, Values: []api.Value{{Desc: d, N: 3, Sum: 1, Min: -1e16, Max: 1e16}}})
}

// Every config: the error is that of registry.New, ahead of all that is wrong with the script.
func TestConfigs(t *testing.T) {
	good := api.Script{Threads: [][]api.Call{{totals}}, Drain: true}
	bad := api.Script{Threads: make([][]api.Call, 9)}
	may := 0
	for _, stripes := range []int{math.MinInt, -1, 0, 1, 16, 17, 1<<32 + 1, math.MaxInt} {
		for _, p := range []int{math.MinInt, -1, 0, 1, 14, 15, 1<<32 + 1, math.MaxInt} {
			for _, cells := range []int{math.MinInt, -1, 0, 1, 1048576, 1048577, 1<<32 + 1, math.MaxInt} {
				c := api.Config{Stripes: stripes, Precision: p, Cells: cells}
				if _, e := registry.New(c); e != api.OK {
					for _, s := range []api.Script{good, bad, {}} {
						refuses(t, fmt.Sprintf("%+v", c), c, s, e)
					}
					continue
				}
				may++
				h := plays(t, c, good)
				wants(t, c, h, api.History{Picks: 3, Threads: [][]api.Done{{{To: 3, Point: 2, Steps: 3, Ended: true, Snapshot: api.Snapshot{Precision: p}}}}})
				refuses(t, fmt.Sprintf("%+v", c), c, bad, api.ErrMany)
				refuses(t, fmt.Sprintf("%+v", c), c, api.Script{}, api.ErrArg)
			}
		}
	}
	if may != 8 {
		t.Errorf("%d configs may be", may)
	}
}

// No threads are told ahead of too many picks.
func TestNoThreads(t *testing.T) {
	for _, s := range []api.Script{{}, {Threads: [][]api.Call{}}, {Drain: true}, {Picks: []int{0, 1}}, {Picks: make([]int, api.MaxPicks+1)}} {
		refuses(t, "no threads", example, s, api.ErrArg)
		refuses(t, "no threads, and no config", api.Config{}, s, api.ErrArg)
	}
}

// Just as many threads as may be, and one more; one without calls is a thread, too.
func TestHowManyThreads(t *testing.T) {
	for n := 1; n <= 20; n++ {
		for _, calls := range [][]api.Call{nil, {totals}, {add(0, 0, 1)}} {
			for _, drain := range []bool{false, true} {
				s := api.Script{Threads: slices.Repeat([][]api.Call{calls}, n), Picks: []int{1, -1, 5}, Drain: drain}
				if n > 8 {
					refuses(t, fmt.Sprint(n, " threads"), example, s, api.ErrMany)
					refuses(t, fmt.Sprint(n, " threads, no config"), api.Config{Stripes: 17, Precision: 1, Cells: 1}, s, api.ErrArg)
					continue
				}
				h := plays(t, example, s)
				if len(h.Threads) != n {
					t.Errorf("%d threads, not %d", len(h.Threads), n)
				}
				wants(t, s, h, want(example, s))
			}
		}
	}
}

// Just as many calls of a thread as may be, and one more, be it any thread.
func TestHowManyCalls(t *testing.T) {
	for threads := 1; threads <= 8; threads++ {
		for th := range threads {
			for _, n := range []int{255, 256, 257, 258, 1000} {
				s := api.Script{Threads: make([][]api.Call, threads), Drain: true}
				s.Threads[th] = slices.Repeat([]api.Call{{Kind: 9}}, n)
				if n > 256 {
					refuses(t, fmt.Sprint(n, " calls"), example, s, api.ErrMany)
					continue
				}
				h := plays(t, example, s)
				if len(h.Threads[th]) != n {
					t.Errorf("%d calls, not %d", len(h.Threads[th]), n)
				}
			}
		}
	}
	// All threads have as many as may be, and all of them are done.
	first := append([]api.Call{register(counter("c"), 3), take(2)}, slices.Repeat([]api.Call{add(3, 2, 1)}, 254)...)
	other := append([]api.Call{totals, take(5)}, slices.Repeat([]api.Call{add(3, 5, 1)}, 253)...)
	threads := [][]api.Call{first}
	for range 7 {
		threads = append(threads, append(slices.Clone(other), reset))
	}
	c := api.Config{Stripes: 8, Precision: 1, Cells: 100}
	h := drained(t, c, threads...)
	wants(t, "history", h, want(c, api.Script{Threads: threads, Drain: true}))
	sum := uint64(0)
	for _, l := range h.Threads {
		wants(t, "calls", len(l), 256)
		sum += valueOf(l[255].Snapshot)
	}
	if sum != 254+7*253 {
		t.Errorf("all Resets told %d", sum)
	}
}

// valueOf tells a lone counter's; 0, where there is none.
func valueOf(s api.Snapshot) uint64 {
	if len(s.Values) == 0 {
		return 0
	}
	return s.Values[0].Total.Lo
}

// Just as many picks as may be, and one more; all of them count, whether there is something to be done or not.
func TestHowManyPicks(t *testing.T) {
	long := []api.Call{}
	for range 256 {
		long = append(long, totals)
	}
	for _, n := range []int{0, 1, 65535, 65536, 65537, 70000} {
		for _, drain := range []bool{false, true} {
			for _, threads := range [][][]api.Call{{nil}, {long, {totals}}} {
				s := api.Script{Threads: threads, Picks: make([]int, n), Drain: drain}
				if n > 65536 {
					refuses(t, fmt.Sprint(n, " picks"), example, s, api.ErrMany)
					continue
				}
				h := plays(t, example, s)
				wants(t, fmt.Sprint(n, " picks, drain: ", drain), h, want(example, s))
				if !drain && h.Picks != n {
					t.Errorf("%d picks, not %d", h.Picks, n)
				}
			}
		}
	}
}

// Picks are counted round how many threads there are.
func TestPicksGoRound(t *testing.T) {
	for n := 1; n <= 8; n++ {
		for _, pick := range []int{0, 1, -1, -2, 7, 8, 9, 15, -8, -9, 255, 256, 1 << 31, 1 << 32, -1 << 33, math.MaxInt, math.MinInt, math.MinInt + 1} {
			s := api.Script{Threads: slices.Repeat([][]api.Call{{totals}}, n), Picks: []int{pick}}
			h := plays(t, example, s)
			at := pick % n
			if at < 0 {
				at += n
			}
			for th, l := range h.Threads {
				steps := 0
				if th == at {
					steps = 1
				}
				wants(t, []int{n, pick, th}, l, []api.Done{{To: 1, Steps: steps}})
			}
		}
	}
}

// What each kind of call looks at first, in the order of the table: kinds that are none, slots that are none, empty ones, filled ones. What is refused there does no step, and nothing else.
func TestTableOfCalls(t *testing.T) {
	c := api.Config{Stripes: 2, Precision: 1, Cells: 600}
	given := []api.Call{register(counter("c"), 0), register(histogram("h"), 1), register(summary("s"), 15), take(0), take(15), release(15)}
	check := func(call api.Call, e api.Errno, steps int) {
		t.Helper()
		h := drained(t, c, append(slices.Clone(given), call, totals))
		got := h.Threads[0][len(given)]
		point := 0
		if steps > 0 {
			point = got.From + 2
		}
		wants(t, call, got, api.Done{E: e, N: got.N, From: 18, To: 18 + steps, Steps: steps, Point: point, Ended: true})
		if e != api.OK && got.N != 0 {
			t.Errorf("%+v: N %d beside an error", call, got.N)
		}
	}
	for _, kind := range noKinds {
		check(api.Call{Kind: kind}, api.ErrKind, 0)
		check(api.Call{Kind: kind, Slot: 16, Rec: -1}, api.ErrKind, 0)
	}
	for _, none := range noSlots {
		check(register(counter("c"), none), api.ErrRange, 0)
		check(register(api.Desc{}, none), api.ErrRange, 0)
		check(take(none), api.ErrRange, 0)
		check(release(none), api.ErrRange, 0)
		for _, kind := range recordKinds {
			for _, one := range []int{0, 1, 2, 15, 16} {
				check(api.Call{Kind: kind, Slot: none, Rec: one, N: -1}, api.ErrRange, 0)
				check(api.Call{Kind: kind, Slot: one, Rec: none, N: -1}, api.ErrRange, 0)
			}
		}
		// What a kind doesn't look at doesn't count.
		check(api.Call{Kind: api.CallRegister, Desc: counter("d"), Rec: none, N: -1, X: nan}, api.OK, 3)
		check(api.Call{Kind: api.CallRecorder, Rec: 1, Slot: none, Desc: desc(9, "?")}, api.OK, 3)
		check(api.Call{Kind: api.CallRelease, Rec: 0, Slot: none}, api.OK, 3)
	}
	for slot := range 16 {
		filled := slot < 2 || slot == 15
		check(register(counter("c"), slot), api.OK, 3)
		check(register(histogram("c"), slot), api.ErrUnlike, 3)
		check(register(histogram("e"), slot), api.ErrRoom, 3)
		check(register(counter("c_count"), slot), api.ErrName, 0)
		for rec := range 16 {
			for _, kind := range recordKinds {
				switch {
				case !filled || rec > 0 && rec < 15:
					check(api.Call{Kind: kind, Slot: slot, Rec: rec, N: -1, X: nan}, api.ErrAbsent, 0)
				case rec == 15:
					check(api.Call{Kind: kind, Slot: slot, Rec: rec, N: 1}, api.ErrState, 4)
				case kindOf(api.Call{Kind: kind}) != map[int]int{0: 1, 1: 2, 15: 3}[slot]:
					check(api.Call{Kind: kind, Slot: slot, Rec: rec, N: 1}, api.ErrKind, 4)
				default:
					check(api.Call{Kind: kind, Slot: slot, Rec: rec, N: -1, X: inf}, api.ErrRange, 4)
					check(api.Call{Kind: kind, Slot: slot, Rec: rec, N: 5, X: 5}, api.OK, map[int]int{0: 4, 1: 5, 15: 12}[slot])
				}
			}
		}
	}
	for rec := range 16 {
		switch rec {
		case 0:
			check(take(rec), api.ErrState, 0)
			check(release(rec), api.OK, 3)
		case 15:
			check(take(rec), api.OK, 3)
			check(release(rec), api.ErrState, 0)
		default:
			check(take(rec), api.OK, 3)
			check(release(rec), api.ErrAbsent, 0)
		}
	}
}

// N is a counter's and a histogram's, X a summary's.
func TestWhichNumberIsRecorded(t *testing.T) {
	c := api.Config{Stripes: 1, Precision: 1, Cells: 300}
	l := []api.Call{register(counter("c"), 0), register(histogram("h"), 1), register(summary("s"), 2), take(0)}
	for i, kind := range recordKinds {
		l = append(l, api.Call{Kind: kind, Slot: i, N: 5, X: 2.5}, api.Call{Kind: kind, Slot: i, N: 7, X: -3})
	}
	h := drained(t, c, append(l, reset, totals))
	s := h.Threads[0][10].Snapshot
	wants(t, "Reset", s, api.Snapshot{Precision: 1, Values: []api.Value{
		{Desc: counter("c"), Total: api.Int{Lo: 12}},
		{Desc: histogram("h"), Total: api.Int{Lo: 12}, Counts: []api.Count{{Index: 4, N: 1}, {Index: 5, N: 1}}, N: 2},
		{Desc: summary("s"), N: 2, Sum: -0.5, Min: -3, Max: 2.5},
	}})
	wants(t, "Totals", h.Threads[0][11].Snapshot, s)
}

// A slot of instruments that has a number keeps it; what is told is the number that Register told.
func TestSlotsOfInstrumentsKeepTheirNumbers(t *testing.T) {
	l := []api.Call{
		register(counter("a"), 0), register(counter("b"), 1), register(counter("b"), 0), register(counter("c"), 0), register(counter("a"), 2),
		register(histogram("a"), 3), register(counter("c"), 3), take(0),
		add(0, 0, 1), add(1, 0, 10), add(2, 0, 100), add(3, 0, 1000), reset,
	}
	h := drained(t, example, l)
	for i, want := range []int{0, 1, 1, 2, 0, 0, 2, 0} {
		wants(t, l[i], h.Threads[0][i].N, want)
	}
	wants(t, "errors", errors(h.Threads[0]), []api.Errno{5: api.ErrUnlike, 12: 0})
	wants(t, "Reset", h.Threads[0][12].Snapshot, counts(1, 0, []api.Desc{counter("a"), counter("b"), counter("c")}, 101, 10, 1000))
}

// A Register that is refused leaves an empty slot empty.
func TestSlotsStayEmpty(t *testing.T) {
	for _, d := range []api.Desc{{}, counter("c_sum"), histogram("c"), histogram("h"), {Kind: api.Counter, Name: "c", Help: "x"}, counter("c", "b", "", "a", "")} {
		h := drained(t, example, []api.Call{register(counter("c"), 1), take(0), register(d, 0), add(0, 0, 5), register(counter("d"), 0), add(0, 0, 7), reset})
		if e := h.Threads[0][2].E; e == api.OK {
			t.Errorf("%+v: %v", d, e)
		}
		wants(t, d, h.Threads[0][3].E, api.ErrAbsent)
		wants(t, d, h.Threads[0][6].Snapshot, counts(1, 0, []api.Desc{counter("c"), counter("d")}, 0, 7))
	}
}

// A slot whose recorder was released has it still; it takes another one, and then that is the one that counts.
func TestSlotsOfRecordersTakeAnother(t *testing.T) {
	c := api.Config{Stripes: 2, Precision: 1, Cells: 100}
	h := drained(t, c, []api.Call{
		register(counter("c"), 0), take(0), take(0), release(0), release(0), add(0, 0, 1),
		take(1), take(0), add(0, 0, 10), add(0, 1, 100), take(2), add(0, 2, 1), release(1), take(2), add(0, 2, 1000), add(0, 1, 1), reset,
	})
	wants(t, "errors", errors(h.Threads[0]), []api.Errno{
		0, 0, api.ErrState, 0, api.ErrState, api.ErrState, 0, 0, 0, 0, api.ErrFull, api.ErrAbsent, 0, 0, 0, api.ErrState, 0,
	})
	stripes := []int{}
	for _, i := range []int{1, 2, 6, 7, 10, 13} {
		stripes = append(stripes, h.Threads[0][i].N)
	}
	wants(t, "stripes", stripes, []int{0, 0, 0, 1, 0, 0})
	wants(t, "Reset", h.Threads[0][16].Snapshot, counts(1, 2, []api.Desc{counter("c")}, 1110))
}

// A slot of a recorder that wasn't released stays as it is when a Recorder for it is refused.
func TestARefusedRecorderChangesNothing(t *testing.T) {
	c := api.Config{Stripes: 3, Precision: 1, Cells: 100}
	h := drained(t, c, []api.Call{register(counter("c"), 0), take(4), take(4), take(4), take(5), add(0, 4, 5), release(5), take(4), take(6), reset})
	wants(t, "errors", errors(h.Threads[0]), []api.Errno{0, 0, api.ErrState, api.ErrState, 0, 0, 0, api.ErrState, 0, 0})
	wants(t, "stripes", []int{h.Threads[0][1].N, h.Threads[0][4].N, h.Threads[0][8].N}, []int{0, 1, 1})
	wants(t, "Reset", valueOf(h.Threads[0][9].Snapshot), uint64(5))
}

// All slots, each with an instrument and a recorder of its own.
func TestAllSlots(t *testing.T) {
	c := api.Config{Stripes: 16, Precision: 1, Cells: 16 * 64}
	var l []api.Call
	var d []api.Desc
	for i := range 16 {
		d = append(d, counter("c"+string(rune('a'+i))))
		l = append(l, register(d[i], 15-i), take(i))
	}
	for i := range 16 {
		l = append(l, add(15-i, i, 1<<i))
	}
	h := drained(t, c, append(l, reset))
	var want []uint64
	for i := range 16 {
		want = append(want, 1<<i)
		wants(t, i, []int{h.Threads[0][2*i].N, h.Threads[0][2*i+1].N}, []int{i, i})
	}
	wants(t, "Reset", h.Threads[0][48].Snapshot, counts(1, 0, d, want...))
}

// Slots of instruments are shared by all threads, those of recorders are each thread's own.
func TestWhoseSlots(t *testing.T) {
	c := api.Config{Stripes: 2, Precision: 1, Cells: 100}
	one := []api.Call{register(counter("c"), 0), take(0), add(0, 0, 5)}
	two := []api.Call{totals, add(0, 0, 1), take(0), add(0, 0, 7), release(0), take(0), release(1), reset}
	picks := append(times(10, 0), times(100, 1)...)
	h := plays(t, c, api.Script{Threads: [][]api.Call{one, two}, Picks: picks})
	wants(t, "errors", errors(h.Threads[1]), []api.Errno{0, api.ErrAbsent, 0, 0, 0, 0, api.ErrAbsent, 0})
	wants(t, "stripes", []int{h.Threads[0][1].N, h.Threads[1][2].N, h.Threads[1][5].N}, []int{0, 1, 1})
	wants(t, "Reset", valueOf(h.Threads[1][7].Snapshot), uint64(12))
}

// A slot is looked at when the call begins, which is right behind the last step of the call ahead of it: a number that is laid later, be it ahead of what would be the first step, comes too late.
func TestSlotsAreLookedAtWhenACallBegins(t *testing.T) {
	one := []api.Call{register(counter("c"), 0)}
	two := []api.Call{take(0), add(0, 0, 5)}
	for _, c := range []struct {
		picks []int
		e     api.Errno
		from  int
	}{
		{[]int{1, 1, 1, 0, 0, 0, 1, 1, 1, 1}, api.ErrAbsent, 3},
		{[]int{0, 1, 0, 1, 1, 0, 1, 1, 1, 1}, api.OK, 8},
		{[]int{1, 1, 0, 1, 0, 0, 1, 1, 1, 1}, api.ErrAbsent, 4},
		{[]int{0, 0, 0, 1, 1, 1, 1, 1, 1, 1}, api.OK, 6},
	} {
		h := plays(t, example, api.Script{Threads: [][]api.Call{one, two}, Picks: c.picks, Drain: true})
		if got := h.Threads[1][1]; got.E != c.e || got.From != c.from {
			t.Errorf("%v: %+v", c.picks, got)
		}
	}
	// The number is there from the Register's point on, but the slot has it when the call has ended.
	other := []api.Call{take(0), {Kind: 0}, add(0, 0, 5), register(counter("c"), 1), add(1, 0, 7), add(0, 0, 9)}
	h := plays(t, example, api.Script{Threads: [][]api.Call{one, other}, Picks: []int{1, 1, 0, 1, 0, 0}, Drain: true})
	wants(t, "errors", errors(h.Threads[1]), []api.Errno{0, api.ErrKind, api.ErrAbsent, 0, 0, 0})
	wants(t, "numbers", []int{h.Threads[0][0].N, h.Threads[1][3].N}, []int{0, 0})
}

// Of two threads that register for one slot, which is empty when both begin, the one that ends first fills it.
func TestTwoForOneSlot(t *testing.T) {
	for first := range 2 {
		threads := [][]api.Call{{register(counter("a"), 0)}, {register(counter("b"), 0)}, {totals, totals, take(0), add(0, 0, 5), reset}}
		picks := slices.Concat([]int{first, 1 - first}, times(3, 1-first), times(2, first), times(3, 1-first), times(100, 2))
		h := plays(t, example, api.Script{Threads: threads, Picks: picks})
		wants(t, first, []int{h.Threads[first][0].N, h.Threads[1-first][0].N}, []int{0, 1})
		told := []uint64{5, 0}
		if first == 1 {
			told = []uint64{0, 5}
		}
		wants(t, first, h.Threads[2][4].Snapshot, counts(1, 0, []api.Desc{counter("a"), counter("b")}, told...))
	}
}

// allKinds tells calls of all kinds, which do all steps that such a one can do, behind those that they need.
func allKinds() []api.Call {
	return []api.Call{
		register(counter("c"), 0), register(histogram("h"), 1), register(summary("s"), 2), register(histogram("c"), 3), take(0), take(1), take(2),
		add(0, 0, greatest), add(0, 0, greatest), add(0, 0, greatest), observe(1, 0, greatest), observe(1, 0, greatest), observe(1, 0, 5), observe(1, 0, greatest),
		sample(2, 0, 5), sample(2, 0, 5), sample(2, 0, -5), sample(2, 0, 6), add(0, 0, -1), observe(2, 0, 1), sample(2, 0, nan), {Kind: 9}, add(9, 0, 1),
		reset, totals, release(0), add(0, 0, 1), release(0), totals, reset,
	}
}

// A script that is cut off by its last pick, at every step of every kind of call: told from what the whole one came to.
func TestCutOffAtEveryStep(t *testing.T) {
	c, calls := api.Config{Stripes: 2, Precision: 1, Cells: 600}, allKinds()
	whole := drained(t, c, calls)
	if len(whole.Threads[0]) != len(calls) || whole.Picks < 600 {
		t.Fatalf("%+v", whole)
	}
	for k := range whole.Picks + 3 {
		h := plays(t, c, api.Script{Threads: [][]api.Call{calls}, Picks: make([]int, k)})
		var want []api.Done
		for i, d := range whole.Threads[0] {
			if d.From > k {
				break
			}
			if d.To > k {
				cut := api.Done{From: d.From, To: k, Steps: k - d.From}
				switch {
				case d.Point <= k:
					cut.Point = d.Point
				case calls[i].Kind == api.CallReset && d.From+2 <= k:
					cut.Point = d.From + 2
				}
				want = append(want, cut)
				break
			}
			want = append(want, d)
		}
		wants(t, k, h, api.History{Picks: k, Threads: [][]api.Done{want}})
	}
}

// The point of a Reset that waits for the lock, takes it, and stores A.
func TestPointOfAReset(t *testing.T) {
	two := [][]api.Call{{totals}, {reset}}
	for _, c := range []struct {
		picks                       []int
		steps, polls, point, picked int
	}{
		{[]int{0, 0, 1}, 1, 0, 0, 3},
		{[]int{0, 0, 1, 1, 1}, 3, 2, 0, 5},
		{[]int{0, 0, 1, 1, 0}, 2, 1, 0, 5},
		{[]int{0, 0, 1, 1, 0, 1}, 3, 1, 6, 6},
		{[]int{0, 0, 1, 1, 0, 1, 0, 0}, 3, 1, 6, 8},
		{[]int{0, 0, 1, 1, 0, 1, 0, 1}, 4, 1, 8, 8},
		{[]int{0, 0, 1, 1, 0, 1, 0, 1, 1, 1}, 6, 1, 8, 10},
	} {
		h := plays(t, example, api.Script{Threads: two, Picks: c.picks})
		wants(t, c.picks, h.Threads[1], []api.Done{{To: c.picked, Steps: c.steps, Polls: c.polls, Point: c.point}})
	}
}

// What each thread tells when several are let go, each in the midst of its call.
func TestSeveralAreLetGo(t *testing.T) {
	c := api.Config{Stripes: 4, Precision: 1, Cells: 100}
	threads := [][]api.Call{
		{register(counter("c"), 0), take(0), add(0, 0, 5), reset, totals},
		{take(0), release(0), totals},
		{totals, reset},
		{register(counter("d"), 1)},
		nil,
		{{Kind: 77}},
	}
	// Thread 0 stands within the flip of its Reset; 1 waits for the lock to release; 2 for that of its first call; 3 has done nothing.
	picks := slices.Concat(times(3, 0), times(3, 1), times(12, 0), times(3, 1), times(4, 2))
	h := plays(t, c, api.Script{Threads: threads, Picks: picks})
	wants(t, "history", h, api.History{Picks: 25, Threads: [][]api.Done{
		{
			{From: 0, To: 3, Point: 2, Steps: 3, Ended: true}, {From: 3, To: 9, Point: 8, Steps: 3, Ended: true, N: 1},
			{From: 9, To: 13, Point: 11, Steps: 4, Ended: true}, {From: 13, To: 25, Point: 16, Steps: 5},
		},
		{{From: 0, To: 6, Point: 5, Steps: 3, Ended: true}, {From: 6, To: 25, Steps: 3, Polls: 2}},
		{{From: 0, To: 25, Steps: 4, Polls: 3}},
		{{From: 0, To: 25}},
		nil,
		{{E: api.ErrKind, Ended: true}},
	}})
}

// Calls that are refused without a step begin and end at one moment: behind the last step of the call ahead of them, whoever did it.
func TestWhatIsRefusedTakesNoTime(t *testing.T) {
	none := api.Call{Kind: 9}
	threads := [][]api.Call{{none, none, totals, none, none}, {none, totals, none, totals, none}}
	h := plays(t, example, api.Script{Threads: threads, Picks: []int{1, 1, 0, 1, 0, 0}, Drain: true})
	at := func(n int) api.Done { return api.Done{E: api.ErrKind, From: n, To: n, Ended: true} }
	s := api.Snapshot{Precision: 1}
	wants(t, "history", h, api.History{Picks: 9, Threads: [][]api.Done{
		{at(0), at(0), {From: 0, To: 6, Point: 5, Steps: 3, Ended: true, Snapshot: s}, at(6), at(6)},
		{at(0), {From: 0, To: 4, Point: 2, Steps: 3, Ended: true, Snapshot: s}, at(4), {From: 4, To: 9, Point: 8, Steps: 3, Ended: true, Snapshot: s}, at(9)},
	}})
}

// Threads that go one behind the other, and those that are drained round by round.
func TestOrdersOfThreads(t *testing.T) {
	c := api.Config{Stripes: 3, Precision: 1, Cells: 600}
	threads := [][]api.Call{allKinds(), {take(0), add(0, 0, 5), totals, reset}, {reset, take(3), observe(1, 3, 9), sample(2, 3, 0.5), totals}}
	for _, order := range [][]int{{0, 1, 2}, {0, 2, 1}, {1, 0, 2}, {1, 2, 0}, {2, 0, 1}, {2, 1, 0}} {
		var picks []int
		for _, th := range order {
			picks = append(picks, times(4000, th)...)
		}
		for _, drain := range []bool{false, true} {
			s := api.Script{Threads: threads, Picks: picks, Drain: drain}
			h := plays(t, c, s)
			wants(t, order, h, want(c, s))
			at := 0
			for _, th := range order {
				for _, d := range h.Threads[th] {
					if d.Polls != 0 || !d.Ended {
						t.Errorf("%v: %+v", order, d)
					}
				}
				wants(t, order, h.Threads[th][0].To > at, true)
				at += 4000
			}
		}
	}
	s := api.Script{Threads: threads, Drain: true}
	wants(t, "round by round", plays(t, c, s), want(c, s))
}

// Many instruments; descriptions of the greatest lengths that may be.
func TestMostInstruments(t *testing.T) {
	c := api.Config{Stripes: 1, Precision: 1, Cells: 1048576}
	var threads [][]api.Call
	for th := range 2 {
		var l []api.Call
		for i := range 150 {
			l = append(l, register(counter("c", "i", fmt.Sprint(th, " ", i)), i%16))
		}
		threads = append(threads, l)
	}
	h := drained(t, c, threads...)
	wants(t, "history", h, want(c, api.Script{Threads: threads, Drain: true}))
	ok, many := 0, 0
	for _, l := range h.Threads {
		for _, d := range l {
			switch d.E {
			case api.OK:
				ok++
			case api.ErrMany:
				many++
			}
		}
	}
	if ok != 256 || many != 44 {
		t.Errorf("%d and %d", ok, many)
	}
	d := api.Desc{Kind: api.Summary, Name: strings.Repeat("n", 64), Help: strings.Repeat("h", 1024)}
	for i := range 16 {
		d.Labels = append(d.Labels, api.Label{Name: "l_" + string(rune('a'+i)), Value: strings.Repeat("v", 1024)})
	}
	h = drained(t, c, []api.Call{register(d, 0), take(0), sample(0, 0, 1), reset})
	wants(t, "Reset", h.Threads[0][3].Snapshot.Values, []api.Value{{Desc: d, N: 1, Sum: 1, Min: 1, Max: 1}})
}
