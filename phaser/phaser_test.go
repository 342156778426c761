package phaser_test

import (
	"math"
	"math/big"
	"math/rand"
	"runtime"
	"slices"
	"sync"
	"sync/atomic"
	"testing"
	"time"

	"gnomon/api"
	"gnomon/gate"
	"gnomon/phaser"
)

// odd is what start counts from in an odd phase.
const odd = math.MinInt64

// edges are numbers at which a pick, a kind, or how many Loads there are, may go wrong.
var edges = []int{0, 1, -1, 2, -2, 3, 7, 8, 9, 1 << 31, -1 << 31, 1 << 32, 1<<32 + 1, 1<<32 + 2, -1 << 40, math.MaxInt, math.MaxInt - 1, math.MinInt, math.MinInt + 1}

// mark is a step that was done.
func mark(thread, pick, step int, n int64) api.Mark {
	return api.Mark{Thread: thread, Pick: pick, Step: step, N: n}
}

func write(loads int64) api.Op { return api.Op{Kind: 1, N: loads} }

func flip() api.Op { return api.Op{Kind: 2} }

// round tells which of n a pick is of.
func round(pick, n int) int {
	return int(new(big.Int).Mod(big.NewInt(int64(pick)), big.NewInt(int64(n))).Int64())
}

// thread is one of a model's: which step of its Ops comes next.
type thread struct {
	left  []api.Op // those that are not done yet, without those that do nothing
	at    int      // how many steps of the first of them were done
	steps int
	phase int64
	old   int64 // what the flip loaded
	mark  int64
	polls int64
}

// model is a Play as the chapter says it, without threads.
type model struct {
	threads          []*thread
	start, even, odd int64
	picks            int
	marks            []api.Mark
}

func newModel(threads [][]api.Op) *model {
	m := &model{odd: odd}
	for t, ops := range threads {
		th := &thread{}
		for _, op := range ops {
			if op.Kind == 1 || op.Kind == 2 && t == 0 {
				th.left = append(th.left, op)
			}
		}
		m.threads = append(m.threads, th)
	}
	return m
}

func (m *model) mark(t int, n int64) {
	m.marks = append(m.marks, mark(t, m.picks, m.threads[t].steps, n))
}

// pick does the next step of a thread.
func (m *model) pick(t int) {
	m.picks++
	th := m.threads[t]
	if len(th.left) == 0 {
		return
	}
	ended := false
	if th.left[0].Kind == 1 {
		ended = m.write(t, th)
	} else {
		ended = m.flip(t, th)
	}
	th.steps++
	th.at++
	if ended {
		th.left, th.at = th.left[1:], 0
	}
}

// write does a writer's next step, and tells whether it was the last one.
func (m *model) write(t int, th *thread) bool {
	loads := 0
	if n := th.left[0].N; n > 1000 {
		loads = 1000
	} else if n > 0 {
		loads = int(n)
	}
	switch th.at {
	case 0:
		th.phase = m.start
		m.start++
		m.mark(t, th.phase)
	case loads + 1:
		if th.phase < 0 {
			m.odd++
		} else {
			m.even++
		}
		m.mark(t, th.phase)
		return true
	}
	return false
}

// flip does a flip's next step, and tells whether it was the last one.
func (m *model) flip(t int, th *thread) bool {
	switch th.at {
	case 0:
		th.old, th.polls = m.start, 0
	case 1:
		if th.old < 0 {
			m.even = 0
		} else {
			m.odd = odd
		}
	case 2:
		th.mark = m.start
		m.start = odd
		if th.old < 0 {
			m.start = 0
		}
		m.mark(t, th.mark)
	default:
		held := m.even
		if th.old < 0 {
			held = m.odd
		}
		if held == th.mark {
			m.mark(t, th.polls)
			return true
		}
		th.polls++
	}
	return false
}

func (m *model) on() bool {
	return slices.ContainsFunc(m.threads, func(th *thread) bool { return len(th.left) > 0 })
}

// want tells what Play must tell.
func want(threads [][]api.Op, picks []int, drain bool) []api.Mark {
	if len(threads) == 0 || len(threads) > 8 {
		return nil
	}
	m := newModel(threads)
	for _, p := range picks {
		m.pick(round(p, len(threads)))
	}
	for drain && m.on() {
		for t, th := range m.threads {
			if len(th.left) > 0 {
				m.pick(t)
			}
		}
	}
	return m.marks
}

func check(t *testing.T, threads [][]api.Op, picks []int, drain bool) {
	t.Helper()
	if got, want := phaser.Play(threads, picks, drain), want(threads, picks, drain); !slices.Equal(got, want) {
		t.Fatalf("%v, picks %v, drain %t:\n%v, want\n%v", threads, picks, drain, got, want)
	}
}

func someNumber(r *rand.Rand) int {
	if r.Intn(8) == 0 {
		return edges[r.Intn(len(edges))]
	}
	return r.Intn(5) - 1
}

func someOp(r *rand.Rand) api.Op {
	op := api.Op{Kind: 1 + r.Intn(2), At: someNumber(r), N: int64(r.Intn(5) - 1)}
	if r.Intn(6) == 0 {
		op.Kind = someNumber(r)
	}
	return op
}

func someThreads(r *rand.Rand) [][]api.Op {
	out := make([][]api.Op, r.Intn(api.MaxThreads+1))
	for t := range out {
		for range r.Intn(6) {
			out[t] = append(out[t], someOp(r))
		}
	}
	if len(out) > 0 && r.Intn(10) == 0 {
		out[0] = append(out[0], write(int64(someNumber(r))))
	}
	return out
}

func somePicks(r *rand.Rand, most int) []int {
	out := make([]int, r.Intn(most+1))
	for i := range out {
		out[i] = someNumber(r)
		if r.Intn(2) == 0 {
			out[i] = r.Intn(api.MaxThreads)
		}
	}
	return out
}

// alone lets one thread go to its end, and tells how many picks that took.
func alone(body func(g *gate.Gate)) int {
	return gate.Run([]func(g *gate.Gate){body}, nil, true)
}

// steps does so many Steps by hand.
func steps(g *gate.Gate, n int) {
	for range n {
		g.Step()
	}
}

// P9.1

func TestExample(t *testing.T) {
	picks := alone(func(g *gate.Gate) {
		p := phaser.New()
		if a, b := p.Enter(g), p.Enter(g); a != 0 || b != 1 {
			t.Errorf("the phases %d, %d", a, b)
		}
		p.Leave(g, 0)
		p.Leave(g, 1)
		g.Begin()
		polls := p.Flip(g)
		if s, noted, point := g.Tally(); polls != 0 || noted != 0 || s != 4 || point != 0 {
			t.Errorf("%d polls, %d noted, %d steps, the point %d", polls, noted, s, point)
		}
		if c := p.Enter(g); c != odd {
			t.Errorf("the phase %d", c)
		}
		p.Leave(g, odd)
		if polls := p.Flip(g); polls != 0 {
			t.Errorf("%d polls", polls)
		}
	})
	if picks != 4+4+2+4 {
		t.Errorf("%d picks", picks)
	}
}

// The phases count up from 0 or from -2^63, in turn, behind however many flips, and whatever the phase ahead came to.
func TestPhasesBehindManyFlips(t *testing.T) {
	p := phaser.New()
	for i := range 1000 {
		from := int64(0)
		if i%2 == 1 {
			from = odd
		}
		var in []int64
		for n := range int64(i % 7) {
			phase := p.Enter(nil)
			if phase != from+n {
				t.Fatalf("flip %d: the phase %d, want %d", i, phase, from+n)
			}
			in = append(in, phase)
		}
		if i%3 == 0 {
			slices.Reverse(in)
		}
		for _, phase := range in {
			p.Leave(nil, phase)
		}
		if polls := p.Flip(nil); polls != 0 {
			t.Fatalf("flip %d: %d polls", i, polls)
		}
	}
}

func TestMarksBehindManyFlips(t *testing.T) {
	const flips = 40
	var ops []api.Op
	var want []api.Mark
	at, from := 0, int64(0)
	do := func(steps int, n int64) {
		at += steps
		want = append(want, mark(0, at, at-1, n))
	}
	for i := range flips {
		writes := int64(i % 4)
		for n := range writes {
			ops = append(ops, write(0))
			do(1, from+n)
			do(1, from+n)
		}
		ops = append(ops, flip())
		do(3, from+writes)
		do(1, 0)
		from = odd - from
	}
	if got := phaser.Play([][]api.Op{ops}, nil, true); !slices.Equal(got, want) {
		t.Errorf("%v, want\n%v", got, want)
	}
}

func TestPhasersAreApart(t *testing.T) {
	a, b := phaser.New(), phaser.New()
	if n, m := a.Enter(nil), b.Enter(nil); n != 0 || m != 0 {
		t.Errorf("the phases %d, %d", n, m)
	}
	b.Leave(nil, 0)
	if polls := b.Flip(nil); polls != 0 {
		t.Errorf("%d polls", polls)
	}
	if n, m := a.Enter(nil), b.Enter(nil); n != 1 || m != odd {
		t.Errorf("the phases %d, %d", n, m)
	}
}

// waiting lets a flip wait for a writer so many polls long; flips ahead of that say in which phase.
func waiting(t *testing.T, flips, polls int) {
	t.Helper()
	p := phaser.New()
	for range flips {
		p.Flip(nil)
	}
	told := false
	reader := func(g *gate.Gate) {
		if n := p.Flip(g); n != polls {
			t.Errorf("%d polls, want %d", n, polls)
		}
		if s, noted, point := g.Tally(); s != polls+4 || noted != polls || point != 0 {
			t.Errorf("%d polls: %d steps, %d noted, the point %d", polls, s, noted, point)
		}
		told = true
	}
	writer := func(g *gate.Gate) { p.Leave(g, p.Enter(g)) }
	picks := append([]int{1, 0, 0, 0}, make([]int, polls)...)
	picks = append(picks, 1, 0)
	if n := gate.Run([]func(g *gate.Gate){reader, writer}, picks, false); n != polls+6 || !told {
		t.Errorf("%d polls: %d picks, told: %t", polls, n, told)
	}
}

// Each look that is not the one that ends a Flip is a poll, and noted as one, in either phase.
func TestPolls(t *testing.T) {
	for flips := range 4 {
		for polls := range 20 {
			waiting(t, flips, polls)
		}
	}
}

// A Flip that has not ended has noted its polls, and no point.
func TestAFlipThatIsLetGo(t *testing.T) {
	for done := range 8 {
		p := phaser.New()
		p.Enter(nil)
		s, polls, point := -1, -1, -1
		reader := func(g *gate.Gate) {
			defer func() { s, polls, point = g.Tally() }()
			p.Flip(g)
			t.Error("the flip has ended")
		}
		gate.Run([]func(g *gate.Gate){reader}, make([]int, done), false)
		if s != done || polls != max(0, done-3) || point != 0 {
			t.Errorf("%d steps: %d, %d polls, the point %d", done, s, polls, point)
		}
		// The Swap is the third step, and not ahead of it.
		if phase := p.Enter(nil); phase != 1 && done < 3 || phase != odd && done >= 3 {
			t.Errorf("%d steps: then the phase %d", done, phase)
		}
	}
}

// Nothing is done ahead of its step: who is let go in its first one has neither entered nor left.
func TestNothingIsDoneAheadOfItsStep(t *testing.T) {
	p := phaser.New()
	gate.Run([]func(g *gate.Gate){func(g *gate.Gate) { p.Enter(g) }}, nil, false)
	if phase := p.Enter(nil); phase != 0 {
		t.Errorf("the phase %d", phase)
	}
	gate.Run([]func(g *gate.Gate){func(g *gate.Gate) { p.Leave(g, 0) }}, nil, false)
	ended := false
	gate.Run([]func(g *gate.Gate){func(g *gate.Gate) { p.Flip(g); ended = true }}, make([]int, 20), false)
	if ended {
		t.Error("the flip has ended, though nobody has left")
	}
}

// R1: whatever the phase is, Leave ends; its sign alone says which word it is.
func TestLeaveOfAnyPhase(t *testing.T) {
	for _, n := range edges {
		phase := int64(n)
		p := phaser.New()
		if phase < 0 {
			p.Flip(nil)
		}
		p.Enter(nil)
		p.Leave(nil, phase)
		if polls := p.Flip(nil); polls != 0 {
			t.Errorf("%d: %d polls", phase, polls)
		}
		// And those that nobody was told are one step all the same.
		if picks := alone(func(g *gate.Gate) { p.Leave(g, phase) }); picks != 1 {
			t.Errorf("%d: %d steps", phase, picks)
		}
	}
}

func TestPlayExample(t *testing.T) {
	got := phaser.Play([][]api.Op{{flip()}, {write(0)}}, []int{1, 0, 0, 0, 0, 1, 0}, false)
	if want := []api.Mark{mark(1, 1, 0, 0), mark(0, 4, 2, 1), mark(1, 6, 1, 0), mark(0, 7, 4, 1)}; !slices.Equal(got, want) {
		t.Errorf("%v, want %v", got, want)
	}
}

// What comes between the Enter and the Leave is just as many Loads.
func TestHowManyLoads(t *testing.T) {
	for _, c := range []struct {
		n     int64
		loads int
	}{
		{0, 0}, {1, 1}, {2, 2}, {17, 17}, {999, 999}, {1000, 1000}, {1001, 1000}, {2000, 1000}, {1 << 31, 1000}, {1 << 32, 1000}, {1<<32 + 1, 1000}, {math.MaxInt64, 1000},
		{-1, 0}, {-2, 0}, {-1000, 0}, {-1001, 0}, {-1 << 31, 0}, {-1 << 32, 0}, {-1<<32 + 5, 0}, {math.MinInt64, 0}, {math.MinInt64 + 1, 0},
	} {
		got := phaser.Play([][]api.Op{{write(c.n), write(0)}}, nil, true)
		want := []api.Mark{mark(0, 1, 0, 0), mark(0, c.loads+2, c.loads+1, 0), mark(0, c.loads+3, c.loads+2, 1), mark(0, c.loads+4, c.loads+3, 1)}
		if !slices.Equal(got, want) {
			t.Errorf("%d: %v, want %v", c.n, got, want)
		}
	}
}

// An Op of no kind is nothing, and no step; a flip is one of thread 0 alone, whose N and At are not looked at.
func TestKinds(t *testing.T) {
	for _, kind := range append([]int{4, 5, 256 + 1, 256 + 2, 1<<16 + 1, 1<<16 + 2}, edges...) {
		ops := []api.Op{{Kind: kind, At: 5, N: 2}, write(0)}
		for n := range api.MaxThreads {
			threads := append(make([][]api.Op, n), ops)
			check(t, threads, nil, true)
			marks := 2
			if kind == 1 || kind == 2 && n == 0 {
				marks = 4
			}
			if got := phaser.Play(threads, nil, true); len(got) != marks {
				t.Errorf("the kind %d of thread %d: %v", kind, n, got)
			}
		}
	}
	for _, n := range edges {
		got := phaser.Play([][]api.Op{{{Kind: 2, At: n, N: int64(n)}, {Kind: 1, At: n}}}, nil, true)
		if want := []api.Mark{mark(0, 3, 2, 0), mark(0, 4, 3, 0), mark(0, 5, 4, odd), mark(0, 6, 5, odd)}; !slices.Equal(got, want) {
			t.Errorf("%d: %v, want %v", n, got, want)
		}
	}
}

func TestHowManyThreads(t *testing.T) {
	for n := range 20 {
		var threads [][]api.Op
		for i := range n {
			threads = append(threads, []api.Op{flip(), write(int64(i % 3))})
		}
		check(t, threads, []int{-1, 3, 3, 2}, true)
		check(t, threads, []int{-1, 3, 3, 2}, false)
		want := 2*n + 2
		if n == 0 || n > api.MaxThreads {
			want = 0
		}
		if got := phaser.Play(threads, nil, true); len(got) != want {
			t.Errorf("%d threads: %d marks, want %d", n, len(got), want)
		}
		if got := phaser.Play(make([][]api.Op, n), []int{0, 1}, true); len(got) != 0 {
			t.Errorf("%d threads without Ops: %v", n, got)
		}
	}
	if got := phaser.Play(slices.Repeat([][]api.Op{{write(0)}}, 1000), nil, true); len(got) != 0 {
		t.Errorf("1000 threads: %v", got)
	}
}

// What has not been picked when the picks have ended is not done, unless it is drained.
func TestPlayIsDrainedOrNot(t *testing.T) {
	threads := [][]api.Op{{flip()}, {write(1)}}
	for i, c := range []struct {
		picks []int
		drain bool
		want  []api.Mark
	}{
		{nil, false, nil},
		{[]int{0}, false, nil},
		{[]int{0, 0}, false, nil},
		{[]int{0, 0, 0}, false, []api.Mark{mark(0, 3, 2, 0)}},
		{[]int{0, 0, 0, 0}, false, []api.Mark{mark(0, 3, 2, 0), mark(0, 4, 3, 0)}},
		{[]int{1}, false, []api.Mark{mark(1, 1, 0, 0)}},
		{[]int{1, 1}, false, []api.Mark{mark(1, 1, 0, 0)}},
		{[]int{1, 1, 1}, false, []api.Mark{mark(1, 1, 0, 0), mark(1, 3, 2, 0)}},
		{[]int{1, 0, 0, 0, 0, 0, 0, 0}, false, []api.Mark{mark(1, 1, 0, 0), mark(0, 4, 2, 1)}}, // the flip polls
		{[]int{0, 0, 1, 0, 0}, false, []api.Mark{mark(1, 3, 0, 0), mark(0, 4, 2, 1)}},          // it has entered behind the Store, ahead of the Swap
		{[]int{0, 0, 0, 1, 0}, false, []api.Mark{mark(0, 3, 2, 0), mark(1, 4, 0, odd), mark(0, 5, 3, 0)}},
		{[]int{1}, true, []api.Mark{mark(1, 1, 0, 0), mark(1, 5, 2, 0), mark(0, 6, 2, 1), mark(0, 7, 3, 0)}},
	} {
		if got := phaser.Play(threads, c.picks, c.drain); !slices.Equal(got, c.want) {
			t.Errorf("%d: %v, want %v", i, got, c.want)
		}
	}
}

// Picks of threads that have ended count all the same.
func TestPicksOfEndedThreadsCount(t *testing.T) {
	got := phaser.Play([][]api.Op{nil, {write(0)}}, []int{0, 0, 1, 0, -1, -1, 2, 3}, true)
	if want := []api.Mark{mark(1, 3, 0, 0), mark(1, 5, 1, 0)}; !slices.Equal(got, want) {
		t.Errorf("%v, want %v", got, want)
	}
}

// allPicks tells every list of so many picks of so many threads.
func allPicks(threads, picks int, tell func(picks []int)) {
	list := make([]int, picks)
	var from func(i int)
	from = func(i int) {
		if i == picks {
			tell(list)
			return
		}
		for t := range threads {
			list[i] = t
			from(i + 1)
		}
	}
	from(0)
}

func TestEveryHistoryOfTwoThreads(t *testing.T) {
	for _, threads := range [][][]api.Op{
		{{flip()}, {write(0)}},
		{{flip(), flip()}, {write(0)}},
		{{flip(), write(0)}, {write(0), write(0)}},
		{{write(1), flip()}, {write(1)}},
	} {
		allPicks(2, 11, func(picks []int) { check(t, threads, picks, false) })
		allPicks(2, 7, func(picks []int) { check(t, threads, picks, true) })
	}
}

func TestEveryHistoryOfThreeThreads(t *testing.T) {
	threads := [][]api.Op{{flip(), flip()}, {write(0)}, {write(0)}}
	allPicks(3, 7, func(picks []int) { check(t, threads, picks, false) })
	allPicks(3, 6, func(picks []int) { check(t, threads, picks, true) })
}

func TestPlayGoesAsTheModel(t *testing.T) {
	r := rand.New(rand.NewSource(91))
	for range 3000 {
		check(t, someThreads(r), somePicks(r, 100), r.Intn(2) == 0)
	}
}

// R3, R4

func TestPlayIsAlikeEachTime(t *testing.T) {
	r := rand.New(rand.NewSource(92))
	before := runtime.NumGoroutine()
	for range 200 {
		threads, picks, drain := someThreads(r), somePicks(r, 60), r.Intn(2) == 0
		first := phaser.Play(threads, picks, drain)
		for range 3 {
			if again := phaser.Play(threads, picks, drain); !slices.Equal(first, again) {
				t.Fatalf("%v, picks %v: %v, and then %v", threads, picks, first, again)
			}
		}
	}
	for range 1000 {
		if runtime.NumGoroutine() <= before {
			return
		}
		time.Sleep(time.Millisecond)
	}
	t.Errorf("%d goroutines, %d before", runtime.NumGoroutine(), before)
}

func TestArgumentsAreLeft(t *testing.T) {
	spare := api.Op{Kind: -7, At: -8, N: -9}
	for _, drain := range []bool{false, true} {
		a, b := []api.Op{flip(), write(2), spare}[:2], []api.Op{write(5), spare}[:1]
		picks := []int{0, 1, 1, 0, -1, -77}[:5]
		threads := [][]api.Op{a, b, {spare}}[:2]
		phaser.Play(threads, picks, drain)
		if !slices.Equal(a[:3], []api.Op{flip(), write(2), spare}) || !slices.Equal(b[:2], []api.Op{write(5), spare}) || !slices.Equal(picks[:6], []int{0, 1, 1, 0, -1, -77}) {
			t.Errorf("%v %v %v", a[:3], b[:2], picks[:6])
		}
		if !slices.Equal(threads[:3][2], []api.Op{spare}) || &threads[0][0] != &a[0] || &threads[1][0] != &b[0] {
			t.Errorf("%v", threads[:3])
		}
	}
}

func TestAnswersAreNew(t *testing.T) {
	threads := [][]api.Op{{flip(), write(1)}, {write(0)}}
	first := phaser.Play(threads, nil, true)
	kept := slices.Clone(first)
	whole := first[:cap(first)]
	for i := range whole {
		whole[i] = mark(-1, -1, -1, -1)
	}
	if again := phaser.Play(threads, nil, true); !slices.Equal(again, kept) {
		t.Errorf("%v, want %v", again, kept)
	}
}

// P9.2, P9.4, P9.5

// writing is what a Play's marks tell of one writer's Op: at which picks it entered and left; left is 0, if it did not.
type writing struct {
	phase         int64
	entered, left int
}

// flipping likewise of a flip: the picks of its Swap and its end; 0, if there was none.
type flipping struct {
	mark, polls  int64
	swapped, end int
	steps        int // from the Swap to the end
}

// told reads what a Play's marks tell. Which Op a mark is of hangs on the thread's Ops, in their order.
func told(threads [][]api.Op, marks []api.Mark) (writes []writing, flips []flipping) {
	for t, th := range newModel(threads).threads {
		var own []api.Mark
		for _, m := range marks {
			if m.Thread == t {
				own = append(own, m)
			}
		}
		for _, op := range th.left {
			first, second := api.Mark{}, api.Mark{}
			if len(own) > 0 {
				first = own[0]
			}
			if len(own) > 1 {
				second = own[1]
			}
			if op.Kind == 1 && len(own) > 0 {
				writes = append(writes, writing{phase: first.N, entered: first.Pick, left: second.Pick})
			}
			if op.Kind == 2 && len(own) > 0 {
				flips = append(flips, flipping{mark: first.N, polls: second.N, swapped: first.Pick, end: second.Pick, steps: second.Step - first.Step})
			}
			own = own[min(2, len(own)):]
		}
	}
	return writes, flips
}

// in tells how many writers had entered ahead of a pick and had not left by another.
func in(writes []writing, ahead, by int) (n int) {
	for _, w := range writes {
		if w.entered < ahead && (w.left == 0 || w.left > by) {
			n++
		}
	}
	return n
}

// Of whatever history: behind a flip all have left that had entered ahead of its Swap; it has no poll where nobody was in; and whoever enters behind the Swap is not waited for.
func TestAllHaveLeft(t *testing.T) {
	r := rand.New(rand.NewSource(93))
	ended, polled, passed := 0, 0, 0
	for range 4000 {
		threads := someThreads(r)
		marks := phaser.Play(threads, somePicks(r, 150), r.Intn(2) == 0)
		writes, flips := told(threads, marks)
		for _, f := range flips {
			if f.end == 0 {
				continue
			}
			ended++
			polled += int(f.polls)
			if n := in(writes, f.swapped, f.end); n != 0 {
				t.Fatalf("%d had entered ahead of the Swap and are in at its end: %v", n, marks)
			}
			was := in(writes, f.swapped, f.swapped)
			if was == 0 && f.polls != 0 {
				t.Fatalf("%d polls, and nobody was in: %v", f.polls, marks)
			}
			if f.steps != int(f.polls)+1 {
				t.Fatalf("%d polls, %d steps behind the Swap: %v", f.polls, f.steps, marks)
			}
			if in(writes, f.end, f.end) > 0 {
				passed++
			}
		}
	}
	if ended < 1000 || polled < 1000 || passed < 100 {
		t.Errorf("too few histories: %d flips, %d polls, %d that did not wait", ended, polled, passed)
	}
}

// The look that comes behind the last one's leaving ends the flip, though others are in that came behind the Swap.
func TestWhoComesBehindTheSwapIsNotWaitedFor(t *testing.T) {
	for late := 1; late < api.MaxThreads; late++ {
		threads := append([][]api.Op{{flip(), flip()}}, slices.Repeat([][]api.Op{{write(0)}}, late)...)
		picks := []int{0, 0, 0}
		for w := range late {
			picks = append(picks, w+1)
		}
		picks = append(picks, 0, 0, 0, 0, 0, 0)
		// The first flip ends with none of them gone; the second one waits for them all.
		writes, flips := told(threads, phaser.Play(threads, picks, false))
		if len(writes) != late || len(flips) != 2 || flips[0].end != late+4 || flips[0].polls != 0 || flips[1].end != 0 || flips[1].mark != odd+int64(late) {
			t.Errorf("%d: %v %v", late, writes, flips)
		}
		for w := range late - 1 {
			picks = append(picks, w+1, 0)
		}
		if _, flips := told(threads, phaser.Play(threads, picks, false)); flips[1].end != 0 {
			t.Errorf("%d: the second flip ended with one in", late)
		}
		picks = append(picks, late, 0)
		if _, flips := told(threads, phaser.Play(threads, picks, false)); flips[1].end != len(picks) || flips[1].polls != int64(late+1) {
			t.Errorf("%d: %v, want an end at %d", late, flips, len(picks))
		}
	}
}

// Where writers come and go without end, a flip ends all the same.
func TestEveryFlipEnds(t *testing.T) {
	r := rand.New(rand.NewSource(94))
	for range 30 {
		threads := [][]api.Op{slices.Repeat([]api.Op{flip()}, 20)}
		for w := range api.MaxThreads - 1 {
			threads = append(threads, slices.Repeat([]api.Op{write(int64(w))}, 200))
		}
		var picks []int
		for range 400 {
			picks = append(picks, r.Perm(api.MaxThreads)...)
			picks = append(picks, slices.Repeat([]int{r.Intn(api.MaxThreads)}, r.Intn(9))...)
		}
		check(t, threads, picks, false)
		_, flips := told(threads, phaser.Play(threads, picks, false))
		if len(flips) != 20 || flips[19].end == 0 {
			t.Fatalf("%d flips: %v", len(flips), flips)
		}
		// Each writer has left when it was picked nine times, in as many rounds.
		for _, f := range flips {
			if f.end-f.swapped > 9*(api.MaxThreads+8) {
				t.Fatalf("a flip took from %d to %d", f.swapped, f.end)
			}
		}
	}
}

// P9.3

// Enter and Leave are one step each, whatever the others do, or don't do.
func TestNobodyWaits(t *testing.T) {
	r := rand.New(rand.NewSource(95))
	for range 500 {
		p := phaser.New()
		reader := func(g *gate.Gate) {
			for range 5 {
				p.Flip(g)
			}
		}
		times := 0
		writer := func(g *gate.Gate) {
			for range 6 {
				g.Begin()
				phase := p.Enter(g)
				if s, polls, point := g.Tally(); s != 1 || polls != 0 || point != 0 {
					t.Errorf("Enter: %d steps, %d polls, the point %d", s, polls, point)
				}
				g.Begin()
				p.Leave(g, phase)
				if s, polls, point := g.Tally(); s != 1 || polls != 0 || point != 0 {
					t.Errorf("Leave: %d steps, %d polls, the point %d", s, polls, point)
				}
				times++
			}
		}
		others := func(g *gate.Gate) {
			phase := p.Enter(g)
			steps(g, 20)
			p.Leave(g, phase)
		}
		picks := somePicks(r, 40)
		for i, n := range picks {
			if round(n, 3) == 1 {
				picks[i] = 0
			}
		}
		// From here on the writer goes on alone: the flip polls, or rests, and so do the others.
		picks = append(picks, slices.Repeat([]int{1}, 12)...)
		gate.Run([]func(g *gate.Gate){reader, writer, others}, picks, false)
		if times != 6 {
			t.Fatalf("the writer came and went %d times", times)
		}
	}
}

// Without a gate

// join waits for goroutines, but not for ever: a phaser that is wrong may let them wait till the end of days.
func join(t *testing.T, wait *sync.WaitGroup) {
	t.Helper()
	ended := make(chan bool)
	go func() {
		wait.Wait()
		close(ended)
	}()
	select {
	case <-ended:
	case <-time.After(time.Minute):
		t.Fatal("a Flip does not end")
	}
}

// among lets writers write into the one of two places that is active, and a reader turn them round and look at the other. A place is plain memory: so the race detector has a word in it, too.
func among(t *testing.T, writers, times, flips int, rest func()) {
	t.Helper()
	p := phaser.New()
	var active atomic.Int64
	places := [2][]int64{make([]int64, writers), make([]int64, writers)}
	var wait, all sync.WaitGroup
	sum := int64(0)
	drain := func() {
		old := active.Load()
		active.Store(1 - old)
		if polls := p.Flip(nil); polls < 0 {
			t.Errorf("%d polls", polls)
		}
		for w, n := range places[old] {
			sum += n
			places[old][w] = 0
		}
	}
	for w := range writers {
		wait.Add(1)
		go func() {
			defer wait.Done()
			for range times {
				phase := p.Enter(nil)
				at := active.Load()
				places[at][w]++
				rest()
				p.Leave(nil, phase)
			}
		}()
	}
	all.Add(1)
	go func() {
		defer all.Done()
		for range flips {
			drain()
		}
		wait.Wait()
		drain()
		drain()
	}()
	join(t, &all)
	if want := int64(writers * times); sum != want {
		t.Errorf("%d of %d were told", sum, want)
	}
}

func TestWithoutAGate(t *testing.T) {
	among(t, 1, 3000, 300, func() {})
	among(t, 2, 3000, 300, func() {})
	among(t, 8, 1000, 200, func() {})
	among(t, 50, 50, 50, func() {})
	among(t, 6, 200, 100, runtime.Gosched)
	among(t, 4, 50, 50, func() { time.Sleep(10 * time.Microsecond) })
}

// Of writers at one time each is told another phase.
func TestAllEnterAtOnce(t *testing.T) {
	for range 2000 {
		const goroutines = 4
		p := phaser.New()
		var wait sync.WaitGroup
		var ready atomic.Int64
		var phases [goroutines]int64
		for i := range goroutines {
			wait.Add(1)
			go func() {
				defer wait.Done()
				for ready.Add(1); ready.Load() < goroutines; {
					runtime.Gosched()
				}
				phases[i] = p.Enter(nil)
				p.Leave(nil, phases[i])
			}()
		}
		join(t, &wait)
		slices.Sort(phases[:])
		if phases != [goroutines]int64{0, 1, 2, 3} {
			t.Fatalf("the phases %v", phases)
		}
		if polls := p.Flip(nil); polls != 0 {
			t.Fatalf("%d polls", polls)
		}
	}
}

// On one processor, too, a poll lets the writer go on: there are few of them, though it rests often.
func TestAPollLetsOthersGoOn(t *testing.T) {
	defer runtime.GOMAXPROCS(runtime.GOMAXPROCS(1))
	const rests = 100
	p := phaser.New()
	phase := p.Enter(nil)
	begun, told := make(chan bool), make(chan int)
	go func() {
		close(begun)
		told <- p.Flip(nil)
	}()
	<-begun
	for range rests {
		runtime.Gosched()
	}
	p.Leave(nil, phase)
	if polls := <-told; polls < 1 || polls > 1000*rests {
		t.Errorf("%d polls", polls)
	}
	among(t, 20, 50, 20, runtime.Gosched)
}

// A Flip without a gate that waits for a thread of a run ends when that leaves.
func TestWithAndWithoutAGate(t *testing.T) {
	p := phaser.New()
	entered, left, flipped := make(chan bool), make(chan bool), make(chan bool)
	go func() {
		<-entered
		p.Flip(nil)
		select {
		case <-left:
		default:
			t.Error("the flip has ended, though the writer is in")
		}
		close(flipped)
	}()
	alone(func(g *gate.Gate) {
		phase := p.Enter(g)
		close(entered)
		steps(g, 5)
		close(left)
		p.Leave(g, phase)
	})
	<-flipped
}
