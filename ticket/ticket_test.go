package ticket_test

import (
	"math"
	"math/big"
	"math/rand"
	"runtime"
	"slices"
	"sync"
	"sync/atomic"
	"testing"
	"time"

	"gnomon/api"
	"gnomon/gate"
	"gnomon/ticket"
)

// edges are numbers at which a pick, or how many Loads there are, may go wrong.
var edges = []int{0, 1, -1, 2, -2, 3, 7, 8, 9, 1 << 31, -1 << 31, 1 << 32, 1<<32 + 1, -1 << 40, math.MaxInt, math.MaxInt - 1, math.MinInt, math.MinInt + 1}

// mark is a step that was done.
func mark(thread, pick, step int, n int64) api.Mark {
	return api.Mark{Thread: thread, Pick: pick, Step: step, N: n}
}

// round tells which of n a pick is of.
func round(pick, n int) int {
	return int(new(big.Int).Mod(big.NewInt(int64(pick)), big.NewInt(int64(n))).Int64())
}

// thread is one of a model's: which step of its numbers comes next.
type thread struct {
	left   []int // the numbers that are not done yet
	at     string
	loads  int
	ticket int64
	steps  int
}

// model is a Play as the chapter says it, without threads.
type model struct {
	threads              []*thread
	next, serving, count int64
	picks                int
	marks                []api.Mark
}

func (m *model) mark(t int, n int64) {
	m.marks = append(m.marks, mark(t, m.picks, m.threads[t].steps, n))
}

// pick does the next step of a thread.
func (m *model) pick(t int) {
	m.picks++
	th := m.threads[t]
	if len(th.left) == 0 {
		return
	}
	switch th.at {
	case "draw":
		th.ticket, th.at = m.next, "look"
		m.next++
	case "look":
		if m.serving == th.ticket {
			m.mark(t, th.ticket)
			th.loads = 0
			th.at = afterLoads(th)
		}
	case "load":
		th.loads++
		th.at = afterLoads(th)
	case "add":
		m.mark(t, m.count)
		m.count++
		th.at = "give"
	case "give":
		m.serving++
		th.left, th.at = th.left[1:], "draw"
	}
	th.steps++
}

func afterLoads(th *thread) string {
	if th.loads < th.left[0] && th.loads < 1000 {
		return "load"
	}
	return "add"
}

func (m *model) on() bool {
	return slices.ContainsFunc(m.threads, func(th *thread) bool { return len(th.left) > 0 })
}

// want tells what Play must tell.
func want(threads [][]int, picks []int, drain bool) []api.Mark {
	if len(threads) == 0 || len(threads) > 8 {
		return nil
	}
	m := &model{}
	for _, numbers := range threads {
		m.threads = append(m.threads, &thread{left: numbers, at: "draw"})
	}
	for _, p := range picks {
		m.pick(round(p, len(threads)))
	}
	for drain && m.on() {
		for t, th := range m.threads {
			if len(th.left) > 0 {
				m.pick(t)
			}
		}
	}
	return m.marks
}

func check(t *testing.T, threads [][]int, picks []int, drain bool) {
	t.Helper()
	if got, want := ticket.Play(threads, picks, drain), want(threads, picks, drain); !slices.Equal(got, want) {
		t.Fatalf("%v, picks %v, drain %t:\n%v, want\n%v", threads, picks, drain, got, want)
	}
}

func someNumber(r *rand.Rand) int {
	if r.Intn(8) == 0 {
		return edges[r.Intn(len(edges))]
	}
	return r.Intn(5) - 1
}

func someThreads(r *rand.Rand) [][]int {
	out := make([][]int, r.Intn(api.MaxThreads+1))
	for t := range out {
		for range r.Intn(4) {
			out[t] = append(out[t], r.Intn(5)-1)
		}
	}
	if len(out) > 0 && r.Intn(10) == 0 {
		out[0] = append(out[0], someNumber(r))
	}
	return out
}

func somePicks(r *rand.Rand, most int) []int {
	out := make([]int, r.Intn(most+1))
	for i := range out {
		out[i] = someNumber(r)
		if r.Intn(2) == 0 {
			out[i] = r.Intn(api.MaxThreads)
		}
	}
	return out
}

// steps does so many Steps by hand.
func steps(g *gate.Gate, n int) {
	for range n {
		g.Step()
	}
}

// P8.1

func TestTakeExample(t *testing.T) {
	var l ticket.Lock
	for i := range int64(1000) {
		if n, polls := l.Take(nil); n != i || polls != 0 {
			t.Fatalf("Take %d: the ticket %d, %d polls", i, n, polls)
		}
		l.Give(nil)
	}
}

// A Take of a free lock is two steps, the last one its point; a Give is one, and no point.
func TestStepsOfAFreeLock(t *testing.T) {
	var l ticket.Lock
	body := func(g *gate.Gate) {
		for i := range 4 {
			g.Begin()
			if n, polls := l.Take(g); n != int64(i) || polls != 0 {
				t.Errorf("Take %d: the ticket %d, %d polls", i, n, polls)
			}
			if steps, polls, point := g.Tally(); steps != 2 || polls != 0 || point != 3*i+2 {
				t.Errorf("Take %d: %d steps, %d polls, the point %d", i, steps, polls, point)
			}
			g.Begin()
			l.Give(g)
			if steps, polls, point := g.Tally(); steps != 1 || polls != 0 || point != 0 {
				t.Errorf("Give %d: %d steps, %d polls, the point %d", i, steps, polls, point)
			}
		}
	}
	if picks := gate.Run([]func(g *gate.Gate){body}, nil, true); picks != 12 {
		t.Errorf("%d picks", picks)
	}
}

func TestLocksAreApart(t *testing.T) {
	locks := make([]ticket.Lock, 3)
	for i := range locks {
		if n, polls := locks[i].Take(nil); n != 0 || polls != 0 {
			t.Errorf("lock %d: the ticket %d, %d polls", i, n, polls)
		}
	}
	locks[1].Give(nil)
	if n, polls := locks[1].Take(nil); n != 1 || polls != 0 {
		t.Errorf("the ticket %d, %d polls", n, polls)
	}
}

// Each look that is not the one that ends a Take is a poll, and noted as one; the point is the look that ends it.
func TestPolls(t *testing.T) {
	for polls := range 20 {
		var l ticket.Lock
		holder := func(g *gate.Gate) {
			l.Take(g)
			l.Give(g)
		}
		told := false
		waiter := func(g *gate.Gate) {
			g.Step()
			g.Begin()
			n, p := l.Take(g)
			told = true
			if n != 1 || p != polls {
				t.Errorf("the ticket %d, %d polls, want 1, %d", n, p, polls)
			}
			if s, p, point := g.Tally(); s != polls+2 || p != polls || point != polls+6 {
				t.Errorf("%d polls: %d steps, %d polls, the point %d", polls, s, p, point)
			}
		}
		picks := []int{0, 0, 1, 1} // the holder holds it, the waiter has begun and drawn
		picks = append(picks, slices.Repeat([]int{1}, polls)...)
		picks = append(picks, 0, 1)
		if n := gate.Run([]func(g *gate.Gate){holder, waiter}, picks, false); n != polls+6 || !told {
			t.Errorf("%d polls: %d picks, told: %t", polls, n, told)
		}
	}
}

// A ticket is drawn in the first step, not ahead of it, and the lock is not free until the step of the Give.
func TestNothingIsDoneAheadOfItsStep(t *testing.T) {
	var l ticket.Lock
	var order []string
	first := func(g *gate.Gate) {
		n, _ := l.Take(g)
		order = append(order, "first held", string(rune('0'+n)))
		l.Give(g)
		order = append(order, "first gave")
	}
	second := func(g *gate.Gate) {
		n, polls := l.Take(g)
		order = append(order, "second held", string(rune('0'+n)), string(rune('0'+polls)))
		l.Give(g)
		order = append(order, "second gave")
	}
	// The second thread draws first; the first one stands in its Give while the second looks.
	gate.Run([]func(g *gate.Gate){first, second}, []int{1, 0, 0, 1, 0, 0, 1, 0, 0}, false)
	want := []string{"second held", "0", "0", "second gave", "first held", "1", "first gave"}
	if !slices.Equal(order, want) {
		t.Errorf("%q, want %q", order, want)
	}
}

// Who is let go while it waits, or in the first step, holds nothing, and nothing of the lock is changed behind that.
func TestWhoIsLetGo(t *testing.T) {
	for _, picks := range [][]int{nil, {0}, {0, 0}, {0, 0, 0, 0}} {
		var l ticket.Lock
		l.Take(nil)
		held, gave := false, false
		body := func(g *gate.Gate) {
			defer func() { gave = true }()
			l.Take(g)
			held = true
		}
		if n := gate.Run([]func(g *gate.Gate){body}, picks, false); n != len(picks) || held || !gave {
			t.Errorf("%v: %d picks, held: %t, ended: %t", picks, n, held, gave)
		}
		l.Give(nil)
		if len(picks) == 0 {
			if n, polls := l.Take(nil); n != 1 || polls != 0 {
				t.Errorf("the next Take: the ticket %d, %d polls", n, polls)
			}
		}
	}
}

// A Take that has not ended has not reached its point, however often it polled.
func TestNoPointAheadOfTheEnd(t *testing.T) {
	for looks := range 5 {
		var l ticket.Lock
		l.Take(nil)
		s, polls, point := -1, -1, -1
		body := func(g *gate.Gate) {
			defer func() { s, polls, point = g.Tally() }()
			l.Take(g)
		}
		gate.Run([]func(g *gate.Gate){body}, make([]int, 1+looks), false)
		if s != 1+looks || polls != looks || point != 0 {
			t.Errorf("%d looks: %d steps, %d polls, the point %d", looks, s, polls, point)
		}
	}
}

// A holder that is let go in its Give has not given.
func TestAGiveThatIsLetGoIsNotDone(t *testing.T) {
	var l ticket.Lock
	holder := func(g *gate.Gate) {
		l.Take(g)
		l.Give(g)
	}
	ended := false
	waiter := func(g *gate.Gate) {
		l.Take(g)
		ended = true
	}
	gate.Run([]func(g *gate.Gate){holder, waiter}, []int{0, 0, 1, 1, 1, 1}, false)
	if ended {
		t.Error("the lock was held by two")
	}
	l.Give(nil) // in the holder's stead
	l.Give(nil) // and in the waiter's
	if n, polls := l.Take(nil); n != 2 || polls != 0 {
		t.Errorf("the next Take: the ticket %d, %d polls", n, polls)
	}
}

func TestPlayExample(t *testing.T) {
	got := ticket.Play([][]int{{0}, {0}}, []int{0, 1, 1, 0, 0, 0, 1, 1, 1}, false)
	if want := []api.Mark{mark(0, 4, 1, 0), mark(0, 5, 2, 0), mark(1, 7, 2, 1), mark(1, 8, 3, 1)}; !slices.Equal(got, want) {
		t.Errorf("%v, want %v", got, want)
	}
}

// What comes between the Take and the Add is just as many Loads; the Give is a step, too.
func TestHowManyLoads(t *testing.T) {
	for _, c := range []struct{ n, loads int }{
		{0, 0}, {1, 1}, {2, 2}, {17, 17}, {999, 999}, {1000, 1000}, {1001, 1000}, {2000, 1000}, {1 << 31, 1000}, {1 << 32, 1000}, {1<<32 + 1, 1000}, {math.MaxInt, 1000},
		{-1, 0}, {-2, 0}, {-1000, 0}, {-1001, 0}, {-1 << 31, 0}, {-1 << 32, 0}, {-1<<32 + 5, 0}, {math.MinInt, 0}, {math.MinInt + 1, 0},
	} {
		got := ticket.Play([][]int{{c.n, 0}}, nil, true)
		want := []api.Mark{mark(0, 2, 1, 0), mark(0, c.loads+3, c.loads+2, 0), mark(0, c.loads+6, c.loads+5, 1), mark(0, c.loads+7, c.loads+6, 1)}
		if !slices.Equal(got, want) {
			t.Errorf("%d: %v, want %v", c.n, got, want)
		}
	}
}

func TestHowManyThreads(t *testing.T) {
	for n := range 20 {
		var threads [][]int
		for i := range n {
			threads = append(threads, []int{i % 3, 1})
		}
		check(t, threads, []int{-1, 3, 3, 2}, true)
		check(t, threads, []int{-1, 3, 3, 2}, false)
		if got := ticket.Play(threads, nil, true); n <= api.MaxThreads && len(got) != 4*n || n > api.MaxThreads && len(got) != 0 {
			t.Errorf("%d threads: %d marks", n, len(got))
		}
		if got := ticket.Play(make([][]int, n), []int{0, 1}, true); len(got) != 0 {
			t.Errorf("%d threads without numbers: %v", n, got)
		}
	}
	if got := ticket.Play(make([][]int, 1000), nil, true); len(got) != 0 {
		t.Errorf("1000 threads: %v", got)
	}
}

// What has not been picked when the picks have ended is not done, unless it is drained.
func TestPlayIsDrainedOrNot(t *testing.T) {
	threads := [][]int{{1}, {0}}
	for i, c := range []struct {
		picks []int
		drain bool
		want  []api.Mark
	}{
		{nil, false, nil},
		{[]int{0}, false, nil},
		{[]int{0, 0}, false, []api.Mark{mark(0, 2, 1, 0)}},
		{[]int{0, 0, 0}, false, []api.Mark{mark(0, 2, 1, 0)}},
		{[]int{0, 0, 0, 0}, false, []api.Mark{mark(0, 2, 1, 0), mark(0, 4, 3, 0)}},
		{[]int{0, 0, 1, 1, 1, 1, 1}, false, []api.Mark{mark(0, 2, 1, 0)}}, // the second one polls
		{[]int{1}, true, []api.Mark{mark(1, 3, 1, 0), mark(1, 5, 2, 0), mark(0, 8, 3, 1), mark(0, 10, 5, 1)}},
	} {
		if got := ticket.Play(threads, c.picks, c.drain); !slices.Equal(got, c.want) {
			t.Errorf("%d: %v, want %v", i, got, c.want)
		}
	}
}

// Picks of threads that have ended count all the same.
func TestPicksOfEndedThreadsCount(t *testing.T) {
	got := ticket.Play([][]int{nil, {0}}, []int{0, 0, 1, 0, 1, -1, 2, 1, 1, 3}, true)
	if want := []api.Mark{mark(1, 5, 1, 0), mark(1, 6, 2, 0)}; !slices.Equal(got, want) {
		t.Errorf("%v, want %v", got, want)
	}
}

// allPicks tells every list of so many picks of so many threads.
func allPicks(threads, picks int, tell func(picks []int)) {
	list := make([]int, picks)
	var from func(i int)
	from = func(i int) {
		if i == picks {
			tell(list)
			return
		}
		for t := range threads {
			list[i] = t
			from(i + 1)
		}
	}
	from(0)
}

func TestEveryHistoryOfTwoThreads(t *testing.T) {
	for _, threads := range [][][]int{{{0}, {0}}, {{1}, {0}}, {{0, 0}, {0}}} {
		allPicks(2, 11, func(picks []int) { check(t, threads, picks, false) })
		allPicks(2, 7, func(picks []int) { check(t, threads, picks, true) })
	}
}

func TestEveryHistoryOfThreeThreads(t *testing.T) {
	allPicks(3, 7, func(picks []int) { check(t, [][]int{{0}, {0}, {0}}, picks, false) })
	allPicks(3, 5, func(picks []int) { check(t, [][]int{{0}, {0}, {0}}, picks, true) })
}

func TestPlayGoesAsTheModel(t *testing.T) {
	r := rand.New(rand.NewSource(81))
	for range 3000 {
		check(t, someThreads(r), somePicks(r, 100), r.Intn(2) == 0)
	}
}

// R3, R4

func TestPlayIsAlikeEachTime(t *testing.T) {
	r := rand.New(rand.NewSource(82))
	before := runtime.NumGoroutine()
	for range 200 {
		threads, picks, drain := someThreads(r), somePicks(r, 60), r.Intn(2) == 0
		first := ticket.Play(threads, picks, drain)
		for range 3 {
			if again := ticket.Play(threads, picks, drain); !slices.Equal(first, again) {
				t.Fatalf("%v, picks %v: %v, and then %v", threads, picks, first, again)
			}
		}
	}
	for range 1000 {
		if runtime.NumGoroutine() <= before {
			return
		}
		time.Sleep(time.Millisecond)
	}
	t.Errorf("%d goroutines, %d before", runtime.NumGoroutine(), before)
}

func TestArgumentsAreLeft(t *testing.T) {
	room := func(list ...int) []int { return append(list, -77, -78)[:len(list)] }
	whole := func(list []int) []int { return list[:len(list)+2] }
	for _, drain := range []bool{false, true} {
		a, b, picks := room(2, -1), room(5), room(0, 1, 1, 0, -1)
		threads := append([][]int{a, b}, []int{9})[:2]
		ticket.Play(threads, picks, drain)
		if !slices.Equal(whole(a), []int{2, -1, -77, -78}) || !slices.Equal(whole(b), []int{5, -77, -78}) || !slices.Equal(whole(picks), []int{0, 1, 1, 0, -1, -77, -78}) {
			t.Errorf("%v %v %v", whole(a), whole(b), whole(picks))
		}
		if !slices.Equal(threads[:3][2], []int{9}) || &threads[0][0] != &a[0] || &threads[1][0] != &b[0] {
			t.Errorf("%v", threads[:3])
		}
	}
}

func TestAnswersAreNew(t *testing.T) {
	threads := [][]int{{0, 1}, {0}}
	first := ticket.Play(threads, nil, true)
	kept := slices.Clone(first)
	whole := first[:cap(first)]
	for i := range whole {
		whole[i] = mark(-1, -1, -1, -1)
	}
	if again := ticket.Play(threads, nil, true); !slices.Equal(again, kept) {
		t.Errorf("%v, want %v", again, kept)
	}
}

// P8.2, P8.3

// history is what threads that take and give one lock came to: the tickets as they were served, and how many held it at one time.
type history struct {
	lock  ticket.Lock
	drawn []int64 // in the order in which the Takes ended
	in    int
	most  int
	gave  int
}

func (h *history) body(times, rests int) func(g *gate.Gate) {
	return func(g *gate.Gate) {
		for range times {
			n, _ := h.lock.Take(g)
			h.drawn = append(h.drawn, n)
			h.in++
			h.most = max(h.most, h.in)
			steps(g, rests)
			h.lock.Give(g)
			h.in--
			h.gave++
		}
	}
}

func TestOneAtATimeAndInOrder(t *testing.T) {
	r := rand.New(rand.NewSource(83))
	for range 1500 {
		h := &history{}
		var bodies []func(g *gate.Gate)
		all := 0
		for range 1 + r.Intn(api.MaxThreads) {
			times := r.Intn(4)
			all += times
			bodies = append(bodies, h.body(times, r.Intn(3)))
		}
		drain := r.Intn(2) == 0
		gate.Run(bodies, somePicks(r, 120), drain)
		if h.most > 1 {
			t.Fatalf("%d held it at one time", h.most)
		}
		for i, n := range h.drawn {
			if n != int64(i) {
				t.Fatalf("the tickets in the order in which they were served: %v", h.drawn)
			}
		}
		if drain && (h.gave != all || len(h.drawn) != all) {
			t.Fatalf("%d of %d gave", h.gave, all)
		}
	}
}

// Who has drawn first holds first, whoever looks first, and however often.
func TestWhoHasDrawnFirstHoldsFirst(t *testing.T) {
	r := rand.New(rand.NewSource(84))
	for range 300 {
		order := r.Perm(api.MaxThreads)
		picks := slices.Clone(order) // each draws, in this order
		for range 100 {
			picks = append(picks, r.Intn(api.MaxThreads))
		}
		marks := ticket.Play(slices.Repeat([][]int{{0}}, api.MaxThreads), picks, true)
		if len(marks) != 2*api.MaxThreads {
			t.Fatalf("%v", marks)
		}
		for i, who := range order {
			if marks[2*i].Thread != who || marks[2*i+1].Thread != who || marks[2*i].N != int64(i) || marks[2*i+1].N != int64(i) {
				t.Fatalf("drawn by %v: %v", order, marks)
			}
		}
	}
}

// P8.4

// However slow the others' steps come, every Take ends, if each comes again and again.
func TestEveryTakeEnds(t *testing.T) {
	for slow := range api.MaxThreads {
		threads := slices.Repeat([][]int{{1, 0, 2}}, api.MaxThreads)
		var picks []int
		for range 400 {
			for t := range api.MaxThreads {
				picks = append(picks, slices.Repeat([]int{t}, 1+t)...)
			}
			picks = append(picks, slices.Repeat([]int{slow}, 9)...)
		}
		check(t, threads, picks, false)
		if got := ticket.Play(threads, picks, false); len(got) != 6*api.MaxThreads {
			t.Errorf("thread %d is picked often: %d marks", slow, len(got))
		}
	}
}

// P8.5

// join waits for goroutines, but not for ever: a lock that is wrong may let them wait till the end of days.
func join(t *testing.T, wait *sync.WaitGroup) {
	t.Helper()
	ended := make(chan bool)
	go func() {
		wait.Wait()
		close(ended)
	}()
	select {
	case <-ended:
	case <-time.After(time.Minute):
		t.Fatal("a Take does not end")
	}
}

// among lets goroutines take and give a lock without a gate, and holds it to what is promised. What they share lies behind the lock alone: so the race detector has a word in it, too.
func among(t *testing.T, goroutines, times int, hold func()) {
	t.Helper()
	var l ticket.Lock
	var wait sync.WaitGroup
	var served []int64
	in, most := 0, 0
	for range goroutines {
		wait.Add(1)
		go func() {
			defer wait.Done()
			last := int64(-1)
			for range times {
				n, polls := l.Take(nil)
				in++
				most = max(most, in)
				served = append(served, n)
				if n <= last || polls < 0 {
					t.Errorf("the ticket %d behind %d, %d polls", n, last, polls)
				}
				last = n
				hold()
				in--
				l.Give(nil)
			}
		}()
	}
	join(t, &wait)
	if most != 1 || len(served) != goroutines*times {
		t.Fatalf("%d held it at one time; %d Takes, want %d", most, len(served), goroutines*times)
	}
	for i, n := range served {
		if n != int64(i) {
			t.Fatalf("served at %d: the ticket %d", i, n)
		}
	}
}

func TestWithoutAGate(t *testing.T) {
	among(t, 2, 3000, func() {})
	among(t, 8, 500, func() {})
	among(t, 50, 20, func() {})
	among(t, 6, 100, runtime.Gosched)
	among(t, 4, 20, func() { time.Sleep(10 * time.Microsecond) })
}

// Whoever comes at one time, no two draw one ticket.
func TestAllComeAtOnce(t *testing.T) {
	for range 3000 {
		const goroutines = 4
		var l ticket.Lock
		var wait sync.WaitGroup
		var ready, in, most atomic.Int64
		var drawn [goroutines]int64
		for i := range goroutines {
			wait.Add(1)
			go func() {
				defer wait.Done()
				for ready.Add(1); ready.Load() < goroutines; {
					runtime.Gosched()
				}
				drawn[i], _ = l.Take(nil)
				if n := in.Add(1); n > 1 {
					most.Store(n)
				}
				in.Add(-1)
				l.Give(nil)
			}()
		}
		join(t, &wait)
		slices.Sort(drawn[:])
		if drawn != [goroutines]int64{0, 1, 2, 3} || most.Load() != 0 {
			t.Fatalf("the tickets %v, %d at one time", drawn, most.Load())
		}
	}
}

// On one processor, too, a poll lets the holder go on: there are few of them, though the holder rests often.
func TestAPollLetsOthersGoOn(t *testing.T) {
	defer runtime.GOMAXPROCS(runtime.GOMAXPROCS(1))
	const rests = 100
	var l ticket.Lock
	l.Take(nil)
	told := make(chan int)
	go func() {
		n, polls := l.Take(nil)
		if n != 1 {
			t.Errorf("the ticket %d", n)
		}
		told <- polls
	}()
	for range rests {
		runtime.Gosched()
	}
	l.Give(nil)
	if polls := <-told; polls < 1 || polls > 1000*rests {
		t.Errorf("%d polls", polls)
	}
	among(t, 20, 50, runtime.Gosched)
}

// A Take without a gate that waits for a thread of a run ends when that gives.
func TestWithAndWithoutAGate(t *testing.T) {
	var l ticket.Lock
	held, done := make(chan bool), make(chan int64)
	holder := func(g *gate.Gate) {
		l.Take(g)
		close(held)
		steps(g, 5)
		l.Give(g)
	}
	go func() {
		<-held
		n, _ := l.Take(nil)
		l.Give(nil)
		done <- n
	}()
	gate.Run([]func(g *gate.Gate){holder}, nil, true)
	if n := <-done; n != 1 {
		t.Errorf("the ticket %d", n)
	}
}
