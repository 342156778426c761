package linear_test

import (
	"fmt"
	"math"
	"math/rand"
	"slices"
	"sync"
	"testing"

	"gnomon/api"
	"gnomon/drive"
	"gnomon/linear"
	"gnomon/recorder"
	"gnomon/registry"
	"gnomon/snap"
)

// descs are those of scripts: families of several series among them, some that are unlike these, and some that may not be.
var descs = []api.Desc{
	counter("c"), counter("c", "a", "x"), histogram("h"), counter("b"), summary("s"), summary("s", "z", "1"),
	histogram("c"), summary("b", "z", "1"), {Kind: api.Counter, Name: "c", Help: "other"}, {Kind: 4, Name: "c"}, counter("c_sum"), counter("c", "b", "1", "a", "1"),
}

var (
	wholes      = []int64{0, 1, 2, 3, 7, 255, 1 << 32, 1<<53 + 1, math.MaxInt64, -1, math.MinInt64}
	floats      = []float64{0, math.Copysign(0, -1), 1, -1, 2.5, 0.1, -0.3, 1e16, -1e16, 0x1p960, -0x1p960, math.NaN(), math.Inf(1), 0x1p961}
	recordKinds = []int{api.CallAdd, api.CallObserve, api.CallSample}
	noSlots     = []int{-1, 16, 17, 1 << 32, math.MaxInt, math.MinInt}
)

// some tells one of a list.
func some[T any](r *rand.Rand, l []T) T { return l[r.Intn(len(l))] }

// someSlot tells one, low ones more often than not, and now and then one that is none.
func someSlot(r *rand.Rand, upTo int) int {
	switch r.Intn(50) {
	case 0:
		return some(r, noSlots)
	case 1:
		return r.Intn(16)
	}
	return r.Intn(upTo)
}

// someCall tells one, records more often than not.
func someCall(r *rand.Rand) api.Call {
	c := api.Call{Slot: someSlot(r, 5), Rec: someSlot(r, 2), N: some(r, wholes), X: some(r, floats)}
	switch n := r.Intn(40); {
	case n < 6:
		// A description has a slot of its own, so that most records are of their instrument's kind.
		c.Kind, c.Slot = api.CallRegister, r.Intn(5)
		c.Desc = descs[c.Slot]
		if r.Intn(3) == 0 {
			c.Slot, c.Desc = someSlot(r, 5), some(r, descs)
		}
	case n < 10:
		c.Kind = api.CallRecorder
	case n < 13:
		c.Kind = api.CallRelease
	case n < 17:
		c.Kind = api.CallReset
	case n < 19:
		c.Kind = api.CallTotals
	case n < 20:
		c.Kind = some(r, []int{0, 9, -1, math.MaxInt})
	case r.Intn(6) == 0 || c.Slot < 0 || c.Slot > 4:
		c.Kind = some(r, recordKinds)
	default:
		c.Kind = recordKinds[descs[c.Slot].Kind-1]
	}
	return c
}

// someScript tells one of so many threads, of at most so many calls drawn each, with a schedule: one of any picks, or one in which threads go on for a while, or in which some come seldom.
func someScript(r *rand.Rand, threads, calls int) (api.Config, api.Script) {
	c := api.Config{Stripes: 1 + r.Intn(4), Precision: 1 + r.Intn(2), Cells: some(r, []int{30, 600, 1100, 3000})}
	s := api.Script{Drain: r.Intn(2) == 0}
	for range threads {
		var l []api.Call
		for i := range 5 {
			if r.Intn(4) == 0 {
				l = append(l, register(descs[i], i))
			}
		}
		if r.Intn(8) > 0 {
			l = append(l, take(r.Intn(2)))
		}
		for range r.Intn(calls + 1) {
			l = append(l, someCall(r))
		}
		s.Threads = append(s.Threads, l)
	}
	often, long := 1+r.Intn(threads), 1+r.Intn(8)
	for range r.Intn(250) {
		th := r.Intn(threads)
		if r.Intn(10) > 0 {
			th = r.Intn(often)
		}
		s.Picks = append(s.Picks, slices.Repeat([]int{th + threads*(r.Intn(7)-3)}, 1+r.Intn(long))...)
	}
	return c, s
}

// alone is a plain doer of calls, one behind the other, over a registry: what layer 19 says of each, without a gate.
type alone struct {
	r    *registry.Registry
	ids  map[int]int
	recs map[[2]int]*recorder.Recorder // by thread and slot
}

func (a alone) do(thread int, c api.Call) (d api.Done) {
	slot, rec := c.Slot >= 0 && c.Slot <= 15, c.Rec >= 0 && c.Rec <= 15
	id, filled := a.ids[c.Slot]
	at := [2]int{thread, c.Rec}
	by := a.recs[at]
	record := c.Kind >= api.CallAdd && c.Kind <= api.CallSample
	switch {
	case c.Kind < 1 || c.Kind > 8:
		d.E = api.ErrKind
	case (c.Kind == api.CallRegister || record) && !slot, (c.Kind == api.CallRecorder || c.Kind == api.CallRelease || record) && !rec:
		d.E = api.ErrRange
	case c.Kind == api.CallRegister:
		if d.N, d.E = a.r.Register(nil, c.Desc); d.E == api.OK && !filled {
			a.ids[c.Slot] = d.N
		}
	case c.Kind == api.CallRecorder && by != nil && !by.Closed():
		d.E = api.ErrState
	case c.Kind == api.CallRecorder:
		if by, d.E = a.r.Recorder(nil); d.E == api.OK {
			a.recs[at], d.N = by, by.Stripe()
		}
	case c.Kind == api.CallReset:
		d.Snapshot = a.r.Reset(nil)
	case c.Kind == api.CallTotals:
		d.Snapshot = a.r.Totals(nil)
	case by == nil || record && !filled:
		d.E = api.ErrAbsent
	case c.Kind == api.CallRelease:
		d.E = a.r.Release(nil, by)
	case c.Kind == api.CallAdd:
		d.E = a.r.Add(nil, by, id, c.N)
	case c.Kind == api.CallObserve:
		d.E = a.r.Observe(nil, by, id, c.N)
	default:
		d.E = a.r.Sample(nil, by, id, c.X)
	}
	return d
}

// answer tells what the last of some calls answers, done over a new registry; false, if there can be none.
func answer(a asked, order [][2]int) (d api.Done, ok bool) {
	r, e := registry.New(a.c)
	if e != api.OK {
		return api.Done{}, false
	}
	by := alone{r: r, ids: map[int]int{}, recs: map[[2]int]*recorder.Recorder{}}
	for _, call := range order {
		d = by.do(call[0], a.s.Threads[call[0]][call[1]])
	}
	return d, true
}

// inLists tells whether a list of lists has something at that place.
func inLists[T any](l [][]T, at [2]int) bool {
	for i, inner := range l {
		for k := range inner {
			if i == at[0] && k == at[1] {
				return true
			}
		}
	}
	return false
}

// fault tells which of the three things is wrong at a place, by the document's words, one behind the other; 0, if none is.
func fault(a asked, order [][2]int, place int) int {
	call := order[place]
	if !inLists(a.h.Threads, call) || !inLists(a.s.Threads, call) || slices.Contains(order[:place], call) {
		return 1
	}
	this := a.h.Threads[call[0]][call[1]]
	for _, ahead := range order[:place] {
		if ahead[0] == call[0] && ahead[1] > call[1] || this.Ended && a.h.Threads[ahead[0]][ahead[1]].From > this.To {
			return 2
		}
	}
	d, ok := answer(a, order[:place+1])
	if !ok || this.Ended && (d.E != this.E || d.N != this.N || !snap.Same(d.Snapshot, this.Snapshot)) {
		return 3
	}
	return 0
}

// want tells what Fits must answer, and what is wrong: 1 to 3, 4 for the rest, 0 for nothing.
func want(a asked, order [][2]int) (is bool, at, wrong int) {
	for place := range order {
		if wrong := fault(a, order, place); wrong != 0 {
			return false, place, wrong
		}
	}
	for th, l := range a.h.Threads {
		for k, d := range l {
			if d.Ended && d.Steps > 0 && !slices.Contains(order, [2]int{th, k}) {
				return false, len(order), 4
			}
		}
	}
	return true, 0, 0
}

// agrees holds Fits against what it must answer, and tells what is wrong with the order.
func agrees(t *testing.T, a asked, order [][2]int) int {
	t.Helper()
	is, at, wrong := want(a, order)
	a.tells(t, is, at, order)
	return wrong
}

// changed tells a history, of which some of what was told is otherwise.
func changed(r *rand.Rand, h api.History) api.History {
	h.Threads = slices.Clone(h.Threads)
	for th, l := range h.Threads {
		h.Threads[th] = slices.Clone(l)
	}
	for range r.Intn(3) {
		th := r.Intn(len(h.Threads))
		if len(h.Threads[th]) == 0 {
			continue
		}
		d := &h.Threads[th][r.Intn(len(h.Threads[th]))]
		switch r.Intn(9) {
		case 0:
			d.E = api.Errno(r.Intn(10))
		case 1:
			d.N = r.Intn(3)
		case 2:
			d.Snapshot.Refused++
		case 3:
			d.Snapshot = api.Snapshot{}
		case 4:
			d.Ended = !d.Ended
		case 5:
			d.From = some(r, []int{math.MinInt, -1, 0, d.To, d.To + 1, h.Picks, math.MaxInt})
		case 6:
			d.To = some(r, []int{math.MinInt, -1, 0, d.From, d.From - 1, h.Picks, math.MaxInt})
		case 7:
			d.Steps = r.Intn(3) - 1
		case 8:
			h.Threads[th] = h.Threads[th][:r.Intn(len(h.Threads[th]))]
		}
	}
	return h
}

// shuffled tells an order, of which some places are otherwise.
func shuffled(r *rand.Rand, a asked, order [][2]int) [][2]int {
	order = slices.Clone(order)
	for range r.Intn(4) {
		n := len(order)
		if n == 0 {
			break
		}
		switch i, k := r.Intn(n), r.Intn(n); r.Intn(8) {
		case 0, 1:
			order[i], order[k] = order[k], order[i]
		case 2, 3:
			k := min(i+1, n-1)
			order[i], order[k] = order[k], order[i]
		case 4:
			order = slices.Delete(order, i, i+1)
		case 5:
			order = slices.Insert(order, i, order[k])
		case 6:
			order = slices.Insert(order, i, [2]int{r.Intn(len(a.s.Threads)+2) - 1, r.Intn(8) - 1})
		case 7:
			order = order[:i]
		}
	}
	return order
}

// Histories as they were played and such that are otherwise, scripts and configs that are not those, in orders of all kinds: against the document's words.
func TestFitsByItsWords(t *testing.T) {
	r := rand.New(rand.NewSource(202))
	seen := map[int]int{}
	for range 1200 {
		c, s := someScript(r, 1+r.Intn(4), 8)
		a := asked{c: c, s: s, h: plays(t, c, s)}
		for range 6 {
			b := a
			if r.Intn(2) == 0 {
				b.h = changed(r, a.h)
			}
			switch r.Intn(20) {
			case 0:
				b.s.Threads = append([][]api.Call{nil}, s.Threads...)
			case 1:
				b.s.Threads = s.Threads[:r.Intn(len(s.Threads)+1)]
			case 2:
				b.c = api.Config{Stripes: r.Intn(18), Precision: r.Intn(4), Cells: r.Intn(300)}
			}
			seen[agrees(t, b, shuffled(r, b, linear.Order(b.h)))]++
		}
	}
	for wrong := range 5 {
		if seen[wrong] < 300 {
			t.Errorf("too little was tried: %v", seen)
		}
	}
}

// drawn tells a script and a history that have nothing to do with each other, and an order. Half of the calls are none, which both have alike: so that not all is wrong at once.
func drawn(r *rand.Rand) (a asked, order [][2]int) {
	numbers := []int{math.MinInt, -1, 0, 0, 0, 1, 1, 2, 3, math.MaxInt}
	a.c = api.Config{Stripes: r.Intn(8), Precision: 1, Cells: 600}
	for range 1 + r.Intn(3) {
		var calls []api.Call
		var done []api.Done
		for range r.Intn(5) {
			c, d := api.Call{Kind: 9}, api.Done{E: api.ErrKind}
			if r.Intn(2) == 0 {
				c, d = someCall(r), api.Done{E: some(r, []api.Errno{0, 0, api.ErrAbsent, api.ErrRange}), N: some(r, []int{0, 0, 1})}
			}
			d.From, d.To, d.Steps, d.Ended = some(r, numbers), some(r, numbers), some(r, numbers), r.Intn(2) == 0
			calls, done = append(calls, c), append(done, d)
		}
		a.s.Threads, a.h.Threads = append(a.s.Threads, calls[:max(0, len(calls)-r.Intn(2))]), append(a.h.Threads, done[:max(0, len(done)-r.Intn(2))])
		for k := range calls {
			order = append(order, [2]int{len(a.s.Threads) - 1, k})
		}
	}
	r.Shuffle(len(order), func(i, k int) { order[i], order[k] = order[k], order[i] })
	order = order[:r.Intn(len(order)+1)]
	if r.Intn(8) == 0 {
		order = slices.Insert(order, r.Intn(len(order)+1), [2]int{some(r, numbers), some(r, numbers)})
	}
	return a, order
}

// Scripts, histories and orders that have nothing to do with each other.
func TestFitsOfAnything(t *testing.T) {
	r := rand.New(rand.NewSource(203))
	seen := map[int]int{}
	for range 20000 {
		a, order := drawn(r)
		seen[agrees(t, a, order)]++
	}
	for wrong := range 5 {
		if seen[wrong] < 1000 {
			t.Errorf("too little was tried: %v", seen)
		}
	}
}

// orders tells every order of a list.
func orders(l [][2]int, tell func(order [][2]int)) {
	var from func(i int)
	from = func(i int) {
		if i == len(l) {
			tell(l)
			return
		}
		for k := i; k < len(l); k++ {
			l[i], l[k] = l[k], l[i]
			from(i + 1)
			l[i], l[k] = l[k], l[i]
		}
	}
	from(0)
}

// Every order of a few calls, of some histories of theirs: that of the points is among those that fit, and not all do.
func TestEveryOrder(t *testing.T) {
	r := rand.New(rand.NewSource(204))
	c := api.Config{Stripes: 2, Precision: 1, Cells: 100}
	threads := [][]api.Call{{register(counter("c"), 0), take(0), add(0, 0, 5)}, {reset, totals}, {take(0)}}
	fits, other := 0, 0
	for range 40 {
		s := api.Script{Threads: threads, Drain: r.Intn(3) > 0}
		for range r.Intn(40) {
			s.Picks = append(s.Picks, r.Intn(3))
		}
		a := asked{c: c, s: s, h: plays(t, c, s)}
		order := linear.Order(a.h)
		a.fits(t, order...)
		orders(slices.Clone(order), func(o [][2]int) {
			if agrees(t, a, o) == 0 {
				fits++
			} else {
				other++
			}
		})
	}
	if fits < 80 || other < 1000 {
		t.Errorf("too little was tried: %d orders fit, %d don't", fits, other)
	}
}

// P20.2 (W1): of every script that drive.Run takes, the history fits in the order of its points.

// linearly plays a script, whose history must fit.
func linearly(t *testing.T, c api.Config, s api.Script) api.History {
	t.Helper()
	h := plays(t, c, s)
	order := linear.Order(h)
	if is, at := linear.Fits(c, s, h, order); !is || at != 0 {
		t.Fatalf("%+v, %+v:\n%+v in the order %v: %v, %d", c, s, h, order, is, at)
	}
	return h
}

func TestHistoriesFit(t *testing.T) {
	r := rand.New(rand.NewSource(205))
	polls, cut, snapshots := 0, 0, 0
	for range 1500 {
		c, s := someScript(r, 1+r.Intn(api.MaxThreads), 16)
		for _, s.Drain = range []bool{false, true} {
			for th, l := range linearly(t, c, s).Threads {
				for k, d := range l {
					polls += d.Polls
					if d.Point > 0 && !d.Ended {
						cut++
					}
					if kind := s.Threads[th][k].Kind; d.Ended && (kind == api.CallReset || kind == api.CallTotals) && len(d.Snapshot.Values) > 0 {
						snapshots++
					}
				}
			}
		}
	}
	if polls < 50000 || cut < 500 || snapshots < 5000 {
		t.Errorf("too little was tried: %d polls, %d calls cut off behind their points, %d snapshots", polls, cut, snapshots)
	}
}

// As many threads and calls as may be.
func TestTheLongestHistoriesFit(t *testing.T) {
	r := rand.New(rand.NewSource(206))
	for range 2 {
		c := api.Config{Stripes: 8, Precision: 1, Cells: 10000}
		s := api.Script{Drain: true}
		for range api.MaxThreads {
			var l []api.Call
			for range api.MaxCalls {
				l = append(l, someCall(r))
			}
			s.Threads = append(s.Threads, l)
		}
		for range r.Intn(20000) {
			s.Picks = append(s.Picks, r.Intn(api.MaxThreads))
		}
		linearly(t, c, s)
	}
}

// allPicks tells every list of so many picks of so many threads.
func allPicks(threads, picks int, tell func(picks []int)) {
	list := make([]int, picks)
	var from func(i int)
	from = func(i int) {
		if i == picks {
			tell(list)
			return
		}
		for t := range threads {
			list[i] = t
			from(i + 1)
		}
	}
	from(0)
}

// Every history of a few calls, cut off and drained.
func TestEveryHistoryFits(t *testing.T) {
	c := api.Config{Stripes: 1, Precision: 1, Cells: 10}
	a, b, unlike := register(counter("a"), 0), register(counter("b"), 0), register(summary("a"), 1)
	for _, l := range []struct {
		threads [][]api.Call
		picks   int
	}{
		{[][]api.Call{{a}, {b}}, 8},
		{[][]api.Call{{a}, {b}, {unlike}}, 6},
		{[][]api.Call{{a, take(0)}, {take(0), add(0, 0, 5)}}, 10},
		{[][]api.Call{{a, take(0), release(0)}, {take(0), add(0, 0, 5)}}, 10},
		{[][]api.Call{{a, take(0), add(0, 0, 5)}, {reset, totals}}, 11},
		{[][]api.Call{{reset}, {reset}}, 11},
		{[][]api.Call{{a}, {totals}, {reset}}, 7},
	} {
		for _, drain := range []bool{false, true} {
			allPicks(len(l.threads), l.picks, func(picks []int) {
				linearly(t, c, api.Script{Threads: l.threads, Picks: picks, Drain: drain})
			})
		}
	}
}

// Every order of an Add's steps and a Reset's: it fits in the order of the points, and with both turned round the Reset is wrong, which tells the Add or doesn't.
func TestEveryOrderOfAnAddAndAReset(t *testing.T) {
	one := []api.Call{register(counter("c"), 0), take(0), add(0, 0, 5)}
	first := slices.Repeat([]int{0}, 6)
	told := map[uint64]int{}
	allPicks(2, 11, func(picks []int) {
		s := api.Script{Threads: [][]api.Call{one, {reset}}, Picks: append(slices.Clone(first), picks...), Drain: true}
		h := linearly(t, config, s)
		order := linear.Order(h)
		order[2], order[3] = order[3], order[2]
		is, at := linear.Fits(config, s, h, order)
		if is || at != slices.Index(order, [2]int{1, 0}) {
			t.Fatalf("%+v in the order %v: %v, %d", h, order, is, at)
		}
		told[h.Threads[1][0].Snapshot.Values[0].Total.Lo]++
	})
	if told[0] < 200 || told[5] < 200 {
		t.Errorf("the Reset told %v", told)
	}
}

// A script of all kinds of calls, cut off at every step, beside others that wait and record.
func TestCutOffAtEveryStep(t *testing.T) {
	c := api.Config{Stripes: 2, Precision: 1, Cells: 600}
	l := []api.Call{
		register(counter("c"), 0), register(histogram("h"), 1), register(summary("s"), 2), register(histogram("c"), 3), take(0),
		add(0, 0, math.MaxInt64), observe(1, 0, math.MaxInt64), sample(2, 0, 0.1), sample(2, 0, -5), add(0, 0, -1), reset, totals, release(0), add(0, 0, 1), reset,
	}
	other := []api.Call{totals, take(0), add(0, 0, 7), sample(2, 0, 1e16), reset, totals, release(0)}
	s := api.Script{Threads: [][]api.Call{l, other, other}, Drain: true}
	n := linearly(t, c, s).Picks
	s.Drain = false
	for k := range n + 2 {
		linearly(t, c, api.Script{Threads: s.Threads[:1], Picks: make([]int, k)})
		// Of three, which are all cut off at once, it is enough now and then.
		if k%4 == 0 {
			s.Picks = s.Picks[:0]
			for i := range k {
				s.Picks = append(s.Picks, i)
			}
			linearly(t, c, s)
		}
	}
}

// Calls at one time have nothing to do with each other, and the same ones are answered the same.
func TestAtOneTime(t *testing.T) {
	var wait sync.WaitGroup
	for seed := range int64(8) {
		wait.Go(func() {
			r := rand.New(rand.NewSource(seed))
			for range 60 {
				c, s := someScript(r, 1+r.Intn(4), 8)
				h, e := drive.Run(c, s)
				order := linear.Order(h)
				if is, at := linear.Fits(c, s, h, order); e != api.OK || !is || at != 0 {
					t.Errorf("%+v, %+v: %v, %v, %d", c, s, e, is, at)
				}
				a := asked{c: c, s: s, h: changed(r, h)}
				order = shuffled(r, a, order)
				is, at, _ := want(a, order)
				for range 3 {
					if gotIs, gotAt := linear.Fits(a.c, a.s, a.h, order); gotIs != is || gotAt != at {
						t.Errorf("%+v in the order %v: %v, %d, not %v, %d", a, order, gotIs, gotAt, is, at)
					}
				}
			}
		})
	}
	wait.Wait()
}

// R3: what is handed in is neither changed nor kept, spare room included, and an answer is new memory.

// whole tells all lists of what is handed in, with their spare room.
func whole(a asked, order [][2]int) string {
	out := fmt.Sprintf("%+v %+v %+v", order[:cap(order)], a.s.Picks[:cap(a.s.Picks)], a.c)
	for _, l := range a.s.Threads[:cap(a.s.Threads)] {
		for _, c := range l[:cap(l)] {
			out += fmt.Sprintf("%+v %+v", c, c.Desc.Labels[:cap(c.Desc.Labels)])
		}
	}
	for _, l := range a.h.Threads[:cap(a.h.Threads)] {
		for _, d := range l[:cap(l)] {
			out += fmt.Sprintf("%+v", d)
			for _, v := range d.Snapshot.Values[:cap(d.Snapshot.Values)] {
				out += fmt.Sprintf("%+v %+v %+v", v, v.Counts[:cap(v.Counts)], v.Desc.Labels[:cap(v.Desc.Labels)])
			}
		}
	}
	return out
}

// roomy tells a list with spare room, which is filled.
func roomy[T any](l []T, with T) []T {
	out := append(slices.Clone(l), with, with, with)
	return out[:len(l)]
}

func TestWhatIsHandedInStays(t *testing.T) {
	r := rand.New(rand.NewSource(207))
	for range 100 {
		c, s := someScript(r, 1+r.Intn(4), 8)
		a := asked{c: c, s: s, h: plays(t, c, s)}
		if r.Intn(2) == 0 {
			a.h = changed(r, a.h)
		}
		a.s.Picks, a.s.Threads, a.h.Threads = roomy(s.Picks, 77), roomy(s.Threads, nil), roomy(a.h.Threads, nil)
		for th, l := range a.s.Threads {
			a.s.Threads[th] = roomy(l, add(7, 7, 7))
			for k := range a.s.Threads[th] {
				d := &a.s.Threads[th][k].Desc
				d.Labels = roomy(d.Labels, api.Label{Name: "junk"})
			}
		}
		for th, l := range a.h.Threads {
			a.h.Threads[th] = roomy(l, api.Done{E: 77})
		}
		order := roomy(linear.Order(a.h), [2]int{7, 7})
		was := whole(a, order)
		linear.Order(a.h)
		linear.Fits(a.c, a.s, a.h, order)
		if now := whole(a, order); now != was {
			t.Fatalf("%s has become %s", was, now)
		}
	}
}

func TestAnOrderIsItsOwners(t *testing.T) {
	a := example()
	first := linear.Order(a.h)
	for i := range first[:cap(first)] {
		first[:cap(first)][i] = [2]int{9, 9}
	}
	second := linear.Order(a.h)
	if !slices.Equal(second, exampleOrder) {
		t.Errorf("Order: %v", second)
	}
	a.fits(t, second...)
}
