package drive_test

import (
	"cmp"
	"fmt"
	"math"
	"math/rand"
	"runtime"
	"slices"
	"sync"
	"testing"
	"time"

	"gnomon/api"
	"gnomon/drive"
	"gnomon/snap"
)

// noWholes and noFloats may not be recorded; the wholes and floats, edges among them, may.
var (
	noWholes = []int64{-1, -2, -1 << 32, least, least + 1}
	noFloats = []float64{nan, inf, -inf, 0x1p961, -0x1p961, math.Nextafter(0x1p960, inf), -math.MaxFloat64}
	wholes   = []int64{0, 1, 2, 3, 7, 255, 256, 1 << 31, 1 << 32, 1<<53 + 1, 1 << 62, greatest - 1, greatest}
	floats   = []float64{0, minusZero, 1, -1, 2.5, 0.1, -0.3, 1e16, -1e16, 0x1p53, 3, 0x1p960, -0x1p960, math.SmallestNonzeroFloat64}
)

// descs are those of scripts: families of several series among them, some that are unlike these, and some that may not be.
var descs = []api.Desc{
	counter("c"), counter("c", "a", "x"), histogram("h"), counter("b"), summary("s"), summary("s", "z", "1"), counter("c", "a", `x",b="y`),
	histogram("c"), summary("b", "z", "1"), {Kind: api.Counter, Name: "c", Help: "other"}, {Kind: 4, Name: "c"}, counter("c_sum"), counter("c", "b", "1", "a", "1"),
}

// some tells one of a list.
func some[T any](r *rand.Rand, l []T) T { return l[r.Intn(len(l))] }

// someSlot tells one, low ones more often than not, and now and then one that is none.
func someSlot(r *rand.Rand, upTo int) int {
	switch r.Intn(40) {
	case 0:
		return some(r, noSlots)
	case 1:
		return r.Intn(16)
	}
	return r.Intn(upTo)
}

// someCall tells one, records more often than not. What its kind doesn't look at is drawn, too.
func someCall(r *rand.Rand) api.Call {
	c := api.Call{Slot: someSlot(r, 5), Rec: someSlot(r, 2), N: some(r, wholes), X: some(r, floats)}
	if r.Intn(8) == 0 {
		c.N, c.X = some(r, noWholes), some(r, noFloats)
	}
	switch n := r.Intn(40); {
	case n < 6:
		// A description has a slot of its own, so that most records are of their instrument's kind.
		c.Kind, c.Slot = api.CallRegister, r.Intn(5)
		c.Desc = descs[c.Slot]
		if r.Intn(3) == 0 {
			c.Slot, c.Desc = someSlot(r, 5), some(r, descs)
		}
	case n < 10:
		c.Kind = api.CallRecorder
	case n < 13:
		c.Kind = api.CallRelease
	case n < 16:
		c.Kind = api.CallReset
	case n < 17:
		c.Kind = api.CallTotals
	case n < 18:
		c.Kind = some(r, noKinds)
	case r.Intn(6) == 0 || c.Slot < 0 || c.Slot > 4:
		c.Kind = some(r, recordKinds)
	default:
		c.Kind = recordKinds[descs[c.Slot].Kind-1]
	}
	return c
}

// someScript tells one, with a schedule: one of any picks, or one in which threads go on for a while, or in which some come seldom.
func someScript(r *rand.Rand, threads int) (api.Config, api.Script) {
	c := api.Config{Stripes: 1 + r.Intn(4), Precision: 1 + r.Intn(2), Cells: some(r, []int{30, 600, 1100, 3000})}
	if r.Intn(8) == 0 {
		c.Stripes = 5 + r.Intn(12)
	}
	s := api.Script{Drain: r.Intn(2) == 0}
	for range threads {
		var l []api.Call
		for i := range 5 {
			if r.Intn(3) == 0 {
				l = append(l, register(descs[i], i))
			}
		}
		if r.Intn(8) > 0 {
			l = append(l, take(r.Intn(2)))
		}
		for range r.Intn(16) {
			l = append(l, someCall(r))
		}
		s.Threads = append(s.Threads, l)
	}
	often, long := 1+r.Intn(threads), 1+r.Intn(8)
	for range r.Intn(250) {
		th := r.Intn(threads)
		if r.Intn(10) > 0 {
			th = r.Intn(often)
		}
		s.Picks = append(s.Picks, times(1+r.Intn(long), th+threads*(r.Intn(7)-3))...)
	}
	return c, s
}

// checks holds a script's history against the model, and against what holds of all histories.
func checks(t *testing.T, c api.Config, s api.Script) api.History {
	t.Helper()
	h := plays(t, c, s)
	if want := want(c, s); !same(h, want) {
		t.Fatalf("%+v, %+v:\n%+v, not\n%+v", c, s, h, want)
	}
	linear(t, c, s, h)
	inOrder(t, s, h)
	return h
}

// inOrder holds a history against what is said of every one, by itself: when calls begin and end, what of a call is zero, how many steps there are in all.
func inOrder(t *testing.T, s api.Script, h api.History) {
	t.Helper()
	steps := 0
	for th, l := range h.Threads {
		now := 0
		for k, d := range l {
			steps += d.Steps
			switch {
			case d.From != now || d.To < d.From+d.Steps || d.Steps == 0 && d.Ended && d.To != d.From:
				t.Fatalf("thread %d, call %d: %+v; the one ahead has ended at %d", th, k, d, now)
			case !d.Ended && (s.Drain || d.To != h.Picks || k != len(l)-1 || !same(answer(d), api.Done{})):
				t.Fatalf("thread %d, call %d: %+v has not ended", th, k, d)
			case d.E != api.OK && !same(answer(d), api.Done{E: d.E}):
				t.Fatalf("thread %d, call %d: %+v beside an error", th, k, d)
			}
			now = d.To
		}
		if whole := len(l) == len(s.Threads[th]); !whole && (len(l) == 0 || l[len(l)-1].Ended) {
			t.Fatalf("thread %d has %d calls of %d, and none that hasn't ended", th, len(l), len(s.Threads[th]))
		}
	}
	if steps > h.Picks || h.Picks < len(s.Picks) || !s.Drain && h.Picks != len(s.Picks) {
		t.Fatalf("%d picks, %d steps; there were to be %d", h.Picks, steps, len(s.Picks))
	}
}

// place names a call by its thread and its number there.
type place struct{ th, k int }

// places tells the calls that have a point, by these.
func places(h api.History) (out []place) {
	for th, l := range h.Threads {
		for k, d := range l {
			if d.Point > 0 {
				out = append(out, place{th, k})
			}
		}
	}
	slices.SortFunc(out, func(a, b place) int { return cmp.Compare(h.Threads[a.th][a.k].Point, h.Threads[b.th][b.k].Point) })
	return out
}

// slotAt tells the number that a slot had when a call began, by the history alone: that of the first Register that had ended by then. (What ends at the moment at which another thread's call begins is the same thread's: each pick is of one alone.)
func slotAt(s api.Script, h api.History, slot, when int) int {
	id, first := -1, math.MaxInt
	for th, l := range h.Threads {
		for k, d := range l {
			c := s.Threads[th][k]
			if c.Kind == api.CallRegister && c.Slot == slot && d.Ended && d.E == api.OK && d.To <= when && d.To < first {
				id, first = d.N, d.To
			}
		}
	}
	return id
}

// linear is W1: what the calls answered, against a book that does them one by one in the order of the points that are told.
func linear(t *testing.T, c api.Config, s api.Script, h api.History) *book {
	t.Helper()
	b, pens := newBook(c), make([][16]pen, len(s.Threads))
	for _, p := range places(h) {
		call, got := s.Threads[p.th][p.k], h.Threads[p.th][p.k]
		if got.Point <= got.From || got.Point > got.To {
			t.Fatalf("%+v: %+v: its point doesn't lie in it", call, got)
		}
		var by *pen
		if call.Rec >= 0 && call.Rec < 16 {
			by = &pens[p.th][call.Rec]
		}
		want := b.do(by, slotAt(s, h, call.Slot, got.From), call)
		if got.Ended && !same(answer(got), want) {
			t.Fatalf("%+v, %+v:\n%+v answered %+v, not %+v", c, s, call, answer(got), want)
		}
	}
	for _, l := range h.Threads {
		for _, d := range l {
			if d.Point == 0 && d.Ended && d.Steps != 0 {
				t.Fatalf("%+v has steps, and no point", d)
			}
		}
	}
	return b
}

// tried counts what became of calls, so that a test can tell whether enough was tried.
type tried struct {
	by    map[string]int // by kind and error
	polls map[int]int    // by kind
	cut   map[int]int    // likewise
}

func newTried() *tried {
	return &tried{by: map[string]int{}, polls: map[int]int{}, cut: map[int]int{}}
}

func (n *tried) add(s api.Script, h api.History) {
	for th, l := range h.Threads {
		for k, d := range l {
			kind := s.Threads[th][k].Kind
			n.polls[kind] += d.Polls
			if !d.Ended {
				n.cut[kind]++
				continue
			}
			n.by[fmt.Sprint(kind, int(d.E))]++
		}
	}
}

// least tells how many there were of the rarest of the answers that scripts come to, and which that is.
func (n *tried) least() (least int, rare string) {
	of := map[int][]api.Errno{
		9:                {api.ErrKind},
		api.CallRegister: {api.OK, api.ErrRange, api.ErrKind, api.ErrName, api.ErrOrder, api.ErrUnlike, api.ErrRoom},
		api.CallRecorder: {api.OK, api.ErrRange, api.ErrState, api.ErrFull},
		api.CallRelease:  {api.OK, api.ErrRange, api.ErrAbsent, api.ErrState},
		api.CallReset:    {api.OK},
		api.CallTotals:   {api.OK},
	}
	for _, kind := range recordKinds {
		of[kind] = []api.Errno{api.OK, api.ErrRange, api.ErrAbsent, api.ErrState, api.ErrKind}
	}
	least = math.MaxInt
	for kind, errors := range of {
		for _, e := range errors {
			if is := fmt.Sprint(kind, int(e)); n.by[is] < least {
				least, rare = n.by[is], is
			}
		}
	}
	return least, rare
}

// Scripts of many threads, whoever's step comes next: all that is told of each call, against the model, step by step.
func TestScriptsGoAsTheModel(t *testing.T) {
	r := rand.New(rand.NewSource(191))
	n := newTried()
	for range 2000 {
		c, s := someScript(r, 1+r.Intn(1+r.Intn(api.MaxThreads)))
		n.add(s, checks(t, c, s))
	}
	if least, of := n.least(); least < 15 {
		t.Errorf("too little was tried: %v: %d", of, least)
	}
	for kind := api.CallRegister; kind <= api.CallTotals; kind++ {
		if n.cut[kind] < 5 {
			t.Errorf("of the kind %d, %d calls were cut off", kind, n.cut[kind])
		}
		if record := slices.Contains(recordKinds, kind); record != (n.polls[kind] == 0) || !record && n.polls[kind] < 300 {
			t.Errorf("of the kind %d there were %d polls", kind, n.polls[kind])
		}
	}
}

// One thread, by itself: long scripts, drained, and cut off anywhere.
func TestScriptsOfOneThread(t *testing.T) {
	r := rand.New(rand.NewSource(192))
	for range 150 {
		c, s := someScript(r, 1)
		s.Picks = nil
		for range 100 {
			s.Threads[0] = append(s.Threads[0], someCall(r))
		}
		s.Drain = true
		h := checks(t, c, s)
		s.Drain = false
		for range 3 {
			s.Picks = make([]int, r.Intn(h.Picks+2))
			checks(t, c, s)
		}
	}
}

// Threads beside one that rests within its call, whichever step it stands ahead of.
func TestBesideOneThatRests(t *testing.T) {
	r := rand.New(rand.NewSource(193))
	for range 120 {
		c, s := someScript(r, 3)
		c.Stripes = max(c.Stripes, 3)
		of := s.Picks
		for _, rest := range []int{1, 2, 3, 4, 5, 6, 7, 8, 11, 20} {
			s.Picks = times(rest, 0)
			for _, p := range of {
				s.Picks = append(s.Picks, 1+(p&1))
			}
			checks(t, c, s)
		}
	}
}

// allPicks tells every list of so many picks of so many threads.
func allPicks(threads, picks int, tell func(picks []int)) {
	list := make([]int, picks)
	var from func(i int)
	from = func(i int) {
		if i == picks {
			tell(list)
			return
		}
		for t := range threads {
			list[i] = t
			from(i + 1)
		}
	}
	from(0)
}

// Every history of a few calls.
func TestEveryHistory(t *testing.T) {
	c := api.Config{Stripes: 1, Precision: 1, Cells: 10}
	a, b, unlike := register(counter("a"), 0), register(counter("b"), 0), register(summary("a"), 1)
	for _, l := range []struct {
		threads [][]api.Call
		picks   int
	}{
		{[][]api.Call{{a}, {a}}, 8},
		{[][]api.Call{{a}, {b}, {unlike}}, 6},
		{[][]api.Call{{a, take(0)}, {take(0), add(0, 0, 5)}}, 10},
		{[][]api.Call{{a, take(0), release(0)}, {take(0), add(0, 0, 5)}}, 10},
		{[][]api.Call{{a, take(0), add(0, 0, 5)}, {reset, totals}}, 11},
		{[][]api.Call{{take(0), release(0)}, {take(0), take(0)}}, 10},
		{[][]api.Call{{reset}, {reset}}, 11},
		{[][]api.Call{{a}, {totals}, {reset}}, 7},
	} {
		for _, drain := range []bool{false, true} {
			allPicks(len(l.threads), l.picks, func(picks []int) {
				checks(t, c, api.Script{Threads: l.threads, Picks: picks, Drain: drain})
			})
		}
	}
}

// Every order of an Add's steps and a Reset's, behind a Register and a Recorder: the Reset tells it, or the next one does.
func TestEveryOrderOfAnAddAndAReset(t *testing.T) {
	one := []api.Call{register(counter("c"), 0), take(0), add(0, 0, 5), add(0, 0, 7)}
	two := []api.Call{reset, reset}
	ahead, told := times(6, 0), map[uint64]int{}
	allPicks(2, 13, func(picks []int) {
		s := api.Script{Threads: [][]api.Call{one, two}, Picks: append(slices.Clone(ahead), picks...), Drain: true}
		h := checks(t, example, s)
		told[valueOf(h.Threads[1][0].Snapshot)]++
	})
	for _, sum := range []uint64{0, 5, 12} {
		if told[sum] < 100 {
			t.Errorf("the first Reset told %v", told)
		}
	}
}

// The same script has the same history.
func TestTheSameHistory(t *testing.T) {
	r := rand.New(rand.NewSource(194))
	for range 60 {
		c, s := someScript(r, 1+r.Intn(api.MaxThreads))
		first := plays(t, c, s)
		for range 4 {
			wants(t, s, plays(t, c, s), first)
		}
	}
}

// Scripts that are played at one time have nothing to do with each other.
func TestScriptsAtOneTime(t *testing.T) {
	var wait sync.WaitGroup
	for seed := range int64(8) {
		wait.Go(func() {
			r := rand.New(rand.NewSource(seed))
			for range 40 {
				c, s := someScript(r, 1+r.Intn(api.MaxThreads))
				h, e := drive.Run(c, s)
				if e != api.OK || !same(h, want(c, s)) {
					t.Errorf("%+v, %+v: %v, %+v", c, s, e, h)
				}
			}
		})
	}
	wait.Wait()
}

// All threads have ended when Run answers, those that are let go, too.
func TestAllThreadsHaveEnded(t *testing.T) {
	r := rand.New(rand.NewSource(195))
	was := runtime.NumGoroutine()
	for range 300 {
		c, s := someScript(r, api.MaxThreads)
		plays(t, c, s)
	}
	// A goroutine whose thread has ended may have its very last bit still to do.
	for i := 0; runtime.NumGoroutine() > was; i++ {
		if i == 1000 {
			t.Fatalf("%d goroutines, not %d", runtime.NumGoroutine(), was)
		}
		time.Sleep(time.Millisecond)
	}
}

// P19.2: W1 to W4. (W1, of every script above: linear.)

// plainly tells a snapshot without what hangs on the order of roundings.
func plainly(s api.Snapshot) api.Snapshot {
	s.Values = slices.Clone(s.Values)
	for i := range s.Values {
		s.Values[i].Sum = 0
	}
	return s
}

// merged tells two snapshots as one, which must be ones that may be.
func merged(t *testing.T, a, b api.Snapshot) api.Snapshot {
	t.Helper()
	if e, at := snap.Check(b); e != api.OK {
		t.Fatalf("%+v: %v at %d", b, e, at)
	}
	all, e := snap.Merge(a, b)
	if e != api.OK {
		t.Fatalf("%+v and %+v: %v", a, b, e)
	}
	return all
}

// closing tells a script with a thread more, that a Reset and the Totals are of, behind the ends of all others.
func closing(t *testing.T, c api.Config, s api.Script) api.Script {
	t.Helper()
	s.Drain = true
	was := plays(t, c, s)
	// The picks are those that there were: round the threads that there are now.
	n := len(s.Threads)
	var picks []int
	for _, p := range s.Picks {
		picks = append(picks, (p%n+n)%n)
	}
	for range was.Picks {
		for th := range n {
			picks = append(picks, th)
		}
	}
	s.Threads = append(slices.Clone(s.Threads), []api.Call{reset, totals})
	s.Picks = picks
	return s
}

// W2: all snapshots that Resets told, merged, and the totals, have just the records that were answered OK, and how many were refused.
func TestNothingIsLost(t *testing.T) {
	r := rand.New(rand.NewSource(196))
	resets, oks := 0, 0
	for range 400 {
		c, s := someScript(r, 1+r.Intn(api.MaxThreads-1))
		// Sums of floats that are too great for a snapshot to be merged are none of a script's.
		for _, l := range s.Threads {
			for k := range l {
				if math.Abs(l[k].X) > 0x1p900 && l[k].X <= 0x1p960 {
					l[k].X = 3
				}
			}
		}
		s.Picks = s.Picks[:min(len(s.Picks), 200)]
		s = closing(t, c, s)
		h, e := drive.Run(c, s)
		if e == api.ErrMany {
			continue
		}
		plain, by := newBook(c), &pen{there: true}
		all := api.Snapshot{Precision: c.Precision}
		for _, p := range places(h) {
			call, d := s.Threads[p.th][p.k], h.Threads[p.th][p.k]
			record := slices.Contains(recordKinds, call.Kind)
			switch {
			case call.Kind == api.CallReset:
				all = merged(t, all, d.Snapshot)
				resets++
			case call.Kind == api.CallRegister || record && d.E == api.OK:
				plain.do(by, slotAt(s, h, call.Slot, d.From), call)
				oks++
			case record:
				plain.refused++
			}
		}
		last := h.Threads[len(h.Threads)-1]
		if len(last) != 2 || !last[1].Ended {
			t.Fatalf("the last thread: %+v", last)
		}
		wants(t, s, plainly(all), plainly(last[1].Snapshot))
		wants(t, s, plainly(plain.reset()), plainly(all))
	}
	if resets < 700 || oks < 3000 {
		t.Errorf("too little was tried: %d Resets, %d records", resets, oks)
	}
}

// W2, by the beginnings and the ends of calls: each Add has a bit of its own, so that a sum tells which are in it.
func TestWhichRecordsAResetTells(t *testing.T) {
	r := rand.New(rand.NewSource(197))
	resets, between := 0, 0
	for range 500 {
		c := api.Config{Stripes: 8, Precision: 1, Cells: 1000}
		s := api.Script{Threads: [][]api.Call{{register(counter("c"), 0)}}, Picks: times(3, 0)}
		bit := 0
		for range 1 + r.Intn(6) {
			l := []api.Call{take(0)}
			for range r.Intn(10) {
				if bit < 62 && r.Intn(3) > 0 {
					l = append(l, add(0, 0, 1<<bit))
					bit++
				} else {
					l = append(l, reset)
				}
			}
			s.Threads = append(s.Threads, l)
		}
		for range r.Intn(400) {
			s.Picks = append(s.Picks, r.Intn(len(s.Threads)))
		}
		s = closing(t, c, s)
		h := plays(t, c, s)
		var told []api.Done
		for _, p := range places(h) {
			if s.Threads[p.th][p.k].Kind == api.CallReset {
				told = append(told, h.Threads[p.th][p.k])
			}
		}
		resets += len(told)
		for _, p := range places(h) {
			call, d := s.Threads[p.th][p.k], h.Threads[p.th][p.k]
			if call.Kind != api.CallAdd || d.E != api.OK {
				continue
			}
			tells := func(x api.Done) bool { return valueOf(x.Snapshot)&uint64(call.N) != 0 }
			in := slices.IndexFunc(told, tells)
			if in < 0 || slices.ContainsFunc(told[in+1:], tells) {
				t.Fatalf("%+v: a record is told by no Reset, or by two: %+v", s, call)
			}
			if in > 0 && d.To <= told[in-1].From || d.From >= told[in].To {
				t.Fatalf("%+v: the record %+v from %d to %d is told by %+v", s, call, d.From, d.To, told[in])
			}
			if d.From < told[in].From && told[in].From < d.To {
				between++
			}
		}
	}
	if resets < 1500 || between < 100 {
		t.Errorf("too little was tried: %d Resets, %d records that one began within", resets, between)
	}
}

// W3: a record that is picked 12 times has ended, whatever the others do, or don't do: each of them rests anywhere, as does whoever holds the lock.
func TestNobodyWaitsToRecord(t *testing.T) {
	c := api.Config{Stripes: 2, Precision: 1, Cells: 600}
	longest := 0
	given := []api.Call{register(counter("c"), 0), register(histogram("h"), 1), register(summary("s"), 2), take(0)}
	records := []api.Call{add(0, 0, greatest), add(0, 0, greatest), add(0, 0, greatest), observe(1, 0, greatest), sample(2, 0, 5), sample(2, 0, nan), add(1, 0, 1)}
	others := [][]api.Call{{totals}, {reset}, {take(0), add(0, 0, 5), release(0)}, {register(counter("d"), 5)}, {take(1), release(1)}}
	for _, other := range others {
		for rest := range 24 {
			picks := slices.Concat(times(12, 0), times(rest, 1), times(1, 2), times(2, 3))
			last := append(slices.Clone(given), records...)
			picks = append(picks, times(12*len(records), 0)...)
			s := api.Script{Threads: [][]api.Call{last, other, {reset}, {totals, totals}}, Picks: picks}
			h := checks(t, c, s)
			for k, call := range last {
				if !slices.Contains(recordKinds, call.Kind) {
					continue
				}
				d := h.Threads[0][k]
				longest = max(longest, d.Steps)
				if !d.Ended || d.Steps > 12 || d.Polls != 0 || k > len(given) && d.To != d.From+d.Steps {
					t.Fatalf("%+v beside %+v that has done %d steps: %+v", call, other, rest, d)
				}
			}
		}
	}
	if longest != 12 {
		t.Errorf("no record had more than %d steps", longest)
	}
}

// W4: if every thread's step comes again and again, every call ends; a Reset does, besides its polls, just the steps that the cells ask for.
func TestEverybodyComesToAnEnd(t *testing.T) {
	r := rand.New(rand.NewSource(198))
	polls := 0
	for range 500 {
		c, s := someScript(r, 1+r.Intn(api.MaxThreads))
		s.Drain = true
		// One kind of instrument, all of which are there ahead of the first Reset: so all Resets have the same cells to swap.
		kinds := r.Intn(4)
		first := append([]api.Call{}, []api.Call{register(descs[0], 0), register(descs[1], 1), register(descs[3], 3)}[:kinds]...)
		for th, l := range s.Threads {
			s.Threads[th] = slices.DeleteFunc(l, func(c api.Call) bool { return c.Kind == api.CallRegister })
		}
		s.Threads[0] = append(first, s.Threads[0]...)
		s.Picks = append(times(9, 0), s.Picks...)
		c.Cells = 1000
		h := plays(t, c, s)
		for th, l := range h.Threads {
			if len(l) != len(s.Threads[th]) {
				t.Fatalf("thread %d has %d calls of %d", th, len(l), len(s.Threads[th]))
			}
			for k, d := range l {
				if !d.Ended {
					t.Fatalf("thread %d, call %d: %+v", th, k, d)
				}
				if s.Threads[th][k].Kind == api.CallReset {
					polls += d.Polls
					wants(t, s, d.Steps-d.Polls, 9+2*kinds*c.Stripes)
				}
			}
		}
	}
	if polls < 1000 {
		t.Errorf("Resets had %d polls alone", polls)
	}
}
