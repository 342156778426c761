package gate_test

import (
	"math"
	"math/big"
	"math/rand"
	"runtime"
	"slices"
	"sync/atomic"
	"testing"
	"time"

	"gnomon/api"
	"gnomon/gate"
)

// body is what a thread does.
type body = func(g *gate.Gate)

// done is a step: whose, and which pick it was.
type done = [2]int

// steps is a body of n steps, each of which tells its thread and its pick.
func steps(out *[]done, t, n int) body {
	return func(g *gate.Gate) {
		for range n {
			g.Step()
			*out = append(*out, done{t, g.Picks()})
		}
	}
}

// An act is what a thread does with its gate.
const (
	step = iota
	begin
	point
	poll
	tell
	acts // how many there are
)

// life is what a thread does: its acts, and those of each of its deferred calls, the last one of which is done first.
type life struct {
	acts     []int
	deferred [][]int
}

// event is an act that was done, and what the gate told behind it.
type event struct{ thread, act, picks, steps, polls, point int }

// body tells a body that does what a life says.
func (l life) body(t int, log *[]event) body {
	return func(g *gate.Gate) {
		for _, later := range l.deferred {
			defer do(g, t, later, log)
		}
		do(g, t, l.acts, log)
	}
}

func do(g *gate.Gate, t int, all []int, log *[]event) {
	for _, act := range all {
		switch act {
		case step:
			g.Step()
		case begin:
			g.Begin()
		case point:
			g.Point()
		case poll:
			g.Poll()
		}
		e := event{thread: t, act: act, picks: g.Picks()}
		e.steps, e.polls, e.point = g.Tally()
		*log = append(*log, e)
	}
}

// run lets lives go, and tells what was done and how many picks there were.
func run(lives []life, picks []int, drain bool) ([]event, int) {
	var log []event
	var bodies []body
	for t, l := range lives {
		bodies = append(bodies, l.body(t, &log))
	}
	n := gate.Run(bodies, picks, drain)
	return log, n
}

// model plays a run as the chapter says it, without threads.
type model struct {
	threads []*modelThread
	picks   int
	log     []event
}

type modelThread struct {
	lists [][]int // what is left to do; it stands at the beginning of the first one
	event         // its number and its tallies
	letGo bool
}

func (th *modelThread) ended() bool { return len(th.lists) == 0 }

// note does an act, and writes down what the gate must tell behind it.
func (m *model) note(th *modelThread, act int) {
	th.lists[0] = th.lists[0][1:]
	switch act {
	case step:
		th.steps++
	case begin:
		th.steps, th.polls, th.point = 0, 0, 0
	case point:
		th.point = m.picks
	case poll:
		th.polls++
	}
	th.act, th.picks = act, m.picks
	m.log = append(m.log, th.event)
}

// goOn does what a thread does up to its next Step, or its end.
func (m *model) goOn(th *modelThread) {
	for !th.ended() {
		switch {
		case len(th.lists[0]) == 0:
			th.lists = th.lists[1:]
		case th.lists[0][0] != step:
			m.note(th, th.lists[0][0])
		case th.letGo:
			th.lists = th.lists[1:]
		default:
			return
		}
	}
}

func (m *model) pick(th *modelThread) {
	m.picks++
	if !th.ended() {
		m.note(th, step)
		m.goOn(th)
	}
}

func (m *model) left() bool {
	return slices.ContainsFunc(m.threads, func(th *modelThread) bool { return !th.ended() })
}

// want tells what run must tell.
func want(lives []life, picks []int, drain bool) ([]event, int) {
	m := &model{}
	for t, l := range lives {
		th := &modelThread{lists: [][]int{l.acts}, event: event{thread: t}}
		for _, later := range slices.Backward(l.deferred) {
			th.lists = append(th.lists, later)
		}
		m.threads = append(m.threads, th)
		m.goOn(th)
	}
	for _, p := range picks {
		n := len(lives)
		m.pick(m.threads[((p%n)+n)%n])
	}
	for drain && m.left() {
		for _, th := range m.threads {
			if !th.ended() {
				m.pick(th)
			}
		}
	}
	for _, th := range m.threads {
		if !th.ended() {
			th.letGo = true
			th.lists = th.lists[1:]
			m.goOn(th)
		}
	}
	return m.log, m.picks
}

// someActs tells acts of which many are steps.
func someActs(r *rand.Rand, most int) []int {
	out := make([]int, r.Intn(most+1))
	for i := range out {
		if r.Intn(2) == 0 {
			out[i] = r.Intn(acts)
		}
	}
	return out
}

func someLives(r *rand.Rand) []life {
	out := make([]life, 1+r.Intn(api.MaxThreads))
	for t := range out {
		out[t].acts = someActs(r, 12)
		for range r.Intn(4) {
			out[t].deferred = append(out[t].deferred, someActs(r, 5))
		}
	}
	return out
}

func somePicks(r *rand.Rand, most int) []int {
	out := make([]int, r.Intn(most+1))
	for i := range out {
		switch r.Intn(4) {
		case 0:
			out[i] = []int{math.MinInt, math.MinInt + 1, math.MaxInt, math.MaxInt - 1, -1, -8, -9, 8, 1 << 40}[r.Intn(9)]
		default:
			out[i] = r.Intn(40) - 20
		}
	}
	return out
}

// P6.1

func TestRunExamples(t *testing.T) {
	for i, c := range []struct {
		lengths []int // of the bodies, in steps; -1: a nil one
		picks   []int
		drain   bool
		want    []done
		n       int
	}{
		{[]int{3, 1}, []int{0, 1, 1, 0, 0}, false, []done{{0, 1}, {1, 2}, {0, 4}, {0, 5}}, 5},
		{[]int{3, 1}, nil, true, []done{{0, 1}, {1, 2}, {0, 3}, {0, 4}}, 4},
		{[]int{3, 1}, nil, false, nil, 0},
		{[]int{3}, []int{-1, 7}, false, []done{{0, 1}, {0, 2}}, 2},
		{nil, []int{1, 2, 3}, false, nil, 0},
		{[]int{-1, 3}, []int{0, 1}, false, []done{{1, 2}}, 2},
	} {
		var out []done
		var bodies []body
		for th, n := range c.lengths {
			bodies = append(bodies, steps(&out, th, n))
			if n < 0 {
				bodies[th] = nil
			}
		}
		if n := gate.Run(bodies, c.picks, c.drain); n != c.n || !slices.Equal(out, c.want) {
			t.Errorf("%d: %d picks, %v, want %d, %v", i, n, out, c.n, c.want)
		}
	}
}

func TestHowManyBodies(t *testing.T) {
	for n := range 12 {
		for _, drain := range []bool{false, true} {
			begun := 0
			var out, want []done
			var bodies []body
			for th := range n {
				bodies = append(bodies, func(g *gate.Gate) {
					begun++
					steps(&out, th, 1)(g)
				})
			}
			wantN, wantBegun := 2, n
			if n == 0 || n > api.MaxThreads {
				wantN, wantBegun = 0, 0
			}
			if n >= 1 && n <= api.MaxThreads {
				want = []done{{n - 1, 1}}
			}
			// The last thread is picked twice: the second time it has ended.
			got := gate.Run(bodies, []int{-1, -1}, false)
			if got != wantN || begun != wantBegun || !slices.Equal(out, want) {
				t.Errorf("%d bodies: %d picks, %d begun, %v", n, got, begun, out)
			}
			out, begun = nil, 0
			if got := gate.Run(bodies, nil, drain); begun != wantBegun || drain && got != wantBegun || !drain && got != 0 {
				t.Errorf("%d bodies, no picks, drain %t: %d picks, %d begun", n, drain, got, begun)
			}
		}
	}
	if n := gate.Run([]body{}, nil, true); n != 0 {
		t.Errorf("an empty list: %d", n)
	}
	if n := gate.Run(make([]body, 1000), []int{1}, true); n != 0 {
		t.Errorf("1000 bodies: %d", n)
	}
}

func TestNilBodies(t *testing.T) {
	for n := 1; n <= api.MaxThreads; n++ {
		for _, drain := range []bool{false, true} {
			if got := gate.Run(make([]body, n), nil, drain); got != 0 {
				t.Errorf("%d nil bodies: %d picks", n, got)
			}
			if got := gate.Run(make([]body, n), []int{0, 5, -3}, drain); got != 3 {
				t.Errorf("%d nil bodies, three picks: %d", n, got)
			}
		}
	}
	var out []done
	if n := gate.Run([]body{nil, steps(&out, 1, 2), nil, steps(&out, 3, 1)}, []int{2, 0}, true); n != 5 || !slices.Equal(out, []done{{1, 3}, {3, 4}, {1, 5}}) {
		t.Errorf("nil bodies among others: %d, %v", n, out)
	}
}

func TestPicksCountRound(t *testing.T) {
	for n := 1; n <= api.MaxThreads; n++ {
		for _, pick := range []int{0, 1, n - 1, n, n + 1, 2*n + 1, -1, -n, -n - 1, 7, 8, 9, math.MaxInt, math.MaxInt - 1, math.MinInt, math.MinInt + 1, 1 << 40} {
			var out []done
			var bodies []body
			for th := range n {
				bodies = append(bodies, steps(&out, th, 1))
			}
			gate.Run(bodies, []int{pick}, false)
			want := int(new(big.Int).Mod(big.NewInt(int64(pick)), big.NewInt(int64(n))).Int64())
			if !slices.Equal(out, []done{{want, 1}}) {
				t.Errorf("of %d threads the pick %d is of %v, want %d", n, pick, out, want)
			}
		}
	}
}

// Each thread goes on to its first Step in turn, ahead of all picks: so two that look at a number first, and change it in a step, lose one of both changes.
func TestTheBeginning(t *testing.T) {
	total := 0
	var order []int
	add := func(th int) body {
		return func(g *gate.Gate) {
			order = append(order, th, g.Picks())
			was := total
			g.Step()
			total = was + 1
		}
	}
	if n := gate.Run([]body{add(0), add(1)}, []int{1, 0}, false); n != 2 || total != 1 || !slices.Equal(order, []int{0, 0, 1, 0}) {
		t.Errorf("%d picks, the total is %d, the order %v", n, total, order)
	}
	order = nil
	at := func(th int) body {
		return func(g *gate.Gate) { order = append(order, th, g.Picks()) }
	}
	if n := gate.Run([]body{at(0), at(1), at(2)}, nil, true); n != 0 || !slices.Equal(order, []int{0, 0, 1, 0, 2, 0}) {
		t.Errorf("bodies without a step: %d picks, the order %v", n, order)
	}
}

// A drain begins with thread 0, whoever was picked last, and goes on with the number of the picks.
func TestDrainBehindPicks(t *testing.T) {
	var out []done
	n := gate.Run([]body{steps(&out, 0, 2), steps(&out, 1, 4), steps(&out, 2, 1)}, []int{1, 2, 2, 1}, true)
	if want := []done{{1, 1}, {2, 2}, {1, 4}, {0, 5}, {1, 6}, {0, 7}, {1, 8}}; n != 8 || !slices.Equal(out, want) {
		t.Errorf("%d picks, %v, want %v", n, out, want)
	}
	out = nil
	if n := gate.Run([]body{steps(&out, 0, 1)}, []int{0, 0, 0}, true); n != 3 || !slices.Equal(out, []done{{0, 1}}) {
		t.Errorf("nothing is left to drain: %d picks, %v", n, out)
	}
}

// The deferred calls of a body that ends by itself are done in steps that answer.
func TestDeferredCallsOfAnOrdinaryEnd(t *testing.T) {
	lives := []life{{acts: []int{step}, deferred: [][]int{{step, tell}, {poll, step}}}}
	log, n := run(lives, nil, true)
	if want := []event{{act: step, picks: 1, steps: 1}, {act: poll, picks: 1, steps: 1, polls: 1}, {act: step, picks: 2, steps: 2, polls: 1}, {act: step, picks: 3, steps: 3, polls: 1}, {act: tell, picks: 3, steps: 3, polls: 1}}; n != 3 || !slices.Equal(log, want) {
		t.Errorf("%d picks, %v", n, log)
	}
}

func TestTally(t *testing.T) {
	other := life{acts: []int{step, step, step, step, step, step}}
	first := life{acts: []int{point, poll, tell, step, step, poll, point, step, begin, tell, step, poll, poll, begin, begin, point, point, step, point}}
	log, n := run([]life{first, other}, []int{1, 0, 1, 1, 0, 0, 1, 0}, true)
	log = slices.DeleteFunc(log, func(e event) bool { return e.thread == 1 })
	want := []event{
		{act: point},
		{act: poll, polls: 1},
		{act: tell, polls: 1},
		{act: step, picks: 2, steps: 1, polls: 1},
		{act: step, picks: 5, steps: 2, polls: 1},
		{act: poll, picks: 5, steps: 2, polls: 2},
		{act: point, picks: 5, steps: 2, polls: 2, point: 5},
		{act: step, picks: 6, steps: 3, polls: 2, point: 5},
		{act: begin, picks: 6},
		{act: tell, picks: 6},
		{act: step, picks: 8, steps: 1},
		{act: poll, picks: 8, steps: 1, polls: 1},
		{act: poll, picks: 8, steps: 1, polls: 2},
		{act: begin, picks: 8},
		{act: begin, picks: 8},
		{act: point, picks: 8, point: 8},
		{act: point, picks: 8, point: 8},
		{act: step, picks: 9, steps: 1, point: 8},
		{act: point, picks: 9, steps: 1, point: 9},
	}
	if n != 11 || !slices.Equal(log, want) {
		t.Errorf("%d picks, %v", n, log)
	}
}

func TestNoGate(t *testing.T) {
	var g *gate.Gate
	for range 3 {
		g.Step()
		g.Point()
		g.Poll()
		if a, b, c := g.Tally(); g.Picks() != 0 || a != 0 || b != 0 || c != 0 {
			t.Errorf("no gate tells %d, %d, %d, %d", g.Picks(), a, b, c)
		}
		g.Begin()
	}
}

func TestRunGoesAsTheModel(t *testing.T) {
	r := rand.New(rand.NewSource(61))
	for range 4000 {
		lives, picks, drain := someLives(r), somePicks(r, 60), r.Intn(2) == 0
		got, n := run(lives, picks, drain)
		log, wantN := want(lives, picks, drain)
		if n != wantN || !slices.Equal(got, log) {
			t.Fatalf("%v, picks %v, drain %t: %d picks, want %d\n%v\nwant\n%v", lives, picks, drain, n, wantN, got, log)
		}
		again, m := run(lives, picks, drain)
		if m != n || !slices.Equal(again, got) {
			t.Fatalf("%v, picks %v, drain %t: %v, then %v", lives, picks, drain, got, again)
		}
	}
}

func TestLongRun(t *testing.T) {
	lives := make([]life, api.MaxThreads)
	for th := range lives {
		lives[th].acts = make([]int, 1000*th)
	}
	picks := make([]int, api.MaxPicks)
	for i := range picks {
		picks[i] = i * i / 7
	}
	for _, drain := range []bool{false, true} {
		got, n := run(lives, picks, drain)
		if log, wantN := want(lives, picks, drain); n != wantN || !slices.Equal(got, log) {
			t.Errorf("drain %t: %d picks, want %d, or another order", drain, n, wantN)
		}
	}
}

// Never do two threads go on at one time, in their deferred calls neither.
func TestOneAtATime(t *testing.T) {
	var busy, met atomic.Int64
	goOn := func() {
		if busy.Add(1) != 1 {
			met.Add(1)
		}
		for range 3 {
			runtime.Gosched()
		}
		busy.Add(-1)
	}
	one := func(g *gate.Gate) {
		defer goOn()
		for range 30 {
			goOn()
			g.Step()
		}
		goOn()
	}
	bodies := slices.Repeat([]body{one}, api.MaxThreads)
	for _, drain := range []bool{false, true} {
		gate.Run(bodies, []int{3, 1, 4, 1, 5, 9, 2, 6, 5, 3, 5}, drain)
		if busy.Load() != 0 || met.Load() != 0 {
			t.Errorf("drain %t: %d go on, %d met another one", drain, busy.Load(), met.Load())
		}
	}
}

// A body may hold the lists that were handed in, and write over them: what they were when Run was called is what counts.
func TestBodiesThatWriteOverTheLists(t *testing.T) {
	var out []done
	picks := []int{0, 1, 0, 1}
	bodies := []body{nil, steps(&out, 1, 2)}
	bodies[0] = func(g *gate.Gate) {
		bodies[1] = nil
		clear(picks)
		steps(&out, 0, 2)(g)
	}
	if n := gate.Run(bodies, picks, false); n != 4 || !slices.Equal(out, []done{{0, 1}, {1, 2}, {0, 3}, {1, 4}}) {
		t.Errorf("%d picks, %v", n, out)
	}
}

// A Run within another one has threads, picks and ends of its own, wherever the body calls it: ahead of its first Step, in a step, in a deferred call when it is let go.
func TestRunWithinARun(t *testing.T) {
	var out []done
	inner := func(name int, drain bool) int {
		deferred := func(g *gate.Gate) {
			defer func() { out = append(out, done{name + 9, g.Picks()}) }()
			steps(&out, name+1, 3)(g)
		}
		return gate.Run([]body{steps(&out, name, 1), deferred}, []int{1}, drain)
	}
	outer := func(g *gate.Gate) {
		defer func() { out = append(out, done{-1, inner(30, false)}) }()
		out = append(out, done{-2, inner(10, true)})
		g.Step()
		out = append(out, done{-3, inner(20, false)})
		if g.Picks() != 2 {
			t.Errorf("the outer run has %d picks behind an inner one", g.Picks())
		}
		g.Step()
		out = append(out, done{-4, 0})
	}
	n := gate.Run([]body{outer, steps(&out, 1, 9)}, []int{1, 0, 1}, false)
	want := []done{
		{11, 1}, {10, 2}, {11, 3}, {11, 4}, {19, 4}, {-2, 4},
		{1, 1},
		{21, 1}, {29, 1}, {-3, 1},
		{1, 3},
		{31, 1}, {39, 1}, {-1, 1},
	}
	if n != 3 || !slices.Equal(out, want) {
		t.Errorf("%d picks, %v, want %v", n, out, want)
	}
}

func TestDeepRuns(t *testing.T) {
	var deep func(n int) int
	deep = func(n int) int {
		if n == 0 {
			return 1
		}
		sum := 0
		one := func(g *gate.Gate) {
			g.Step()
			sum += deep(n - 1)
			g.Step()
		}
		gate.Run([]body{one, one, one}, []int{0, 2, 0}, true)
		return sum
	}
	if got := deep(5); got != 243 {
		t.Errorf("runs within runs come to %d, want 243", got)
	}
}

// P6.2

// op tells an Op of which the N alone counts.
func op(r *rand.Rand) api.Op { return api.Op{Kind: r.Int(), At: -r.Int(), N: r.Int63() - r.Int63()} }

func TestPlayExample(t *testing.T) {
	got := gate.Play([][]api.Op{{{N: 5}, {N: 6}}, {{N: 7}}}, []int{1, 0}, true)
	if want := []api.Mark{{Thread: 1, Pick: 1, Step: 0, N: 7}, {Thread: 0, Pick: 2, Step: 0, N: 5}, {Thread: 0, Pick: 3, Step: 1, N: 6}}; !slices.Equal(got, want) {
		t.Errorf("%v, want %v", got, want)
	}
}

func TestPlayAtTheEdges(t *testing.T) {
	one := []api.Op{{N: math.MinInt64}}
	for i, c := range []struct {
		threads [][]api.Op
		picks   []int
		drain   bool
		want    []api.Mark
	}{
		{nil, []int{1, 2}, true, nil},
		{[][]api.Op{}, nil, true, nil},
		{[][]api.Op{nil, {}}, []int{0, 1}, true, nil},
		{[][]api.Op{one}, nil, false, nil},
		{[][]api.Op{one}, []int{math.MinInt}, false, []api.Mark{{Pick: 1, N: math.MinInt64}}},
		{[][]api.Op{one, nil, one}, []int{1, -1, 2, 3}, false, []api.Mark{{Thread: 2, Pick: 2, N: math.MinInt64}, {Pick: 4, N: math.MinInt64}}},
		{slices.Repeat([][]api.Op{one}, 8), []int{15}, false, []api.Mark{{Thread: 7, Pick: 1, N: math.MinInt64}}},
		{slices.Repeat([][]api.Op{one}, 9), []int{15}, true, nil},
		{make([][]api.Op, 100000), []int{15}, true, nil},
	} {
		if got := gate.Play(c.threads, c.picks, c.drain); !slices.Equal(got, c.want) {
			t.Errorf("%d: %v, want %v", i, got, c.want)
		}
	}
}

func TestPlay(t *testing.T) {
	r := rand.New(rand.NewSource(62))
	for range 2000 {
		threads := make([][]api.Op, 1+r.Intn(api.MaxThreads))
		lives := make([]life, len(threads))
		for th := range threads {
			for range r.Intn(10) {
				threads[th] = append(threads[th], op(r))
			}
			lives[th].acts = make([]int, len(threads[th]))
		}
		picks, drain := somePicks(r, 60), r.Intn(2) == 0
		marks := gate.Play(threads, picks, drain)
		log, _ := want(lives, picks, drain)
		if len(marks) != len(log) {
			t.Fatalf("%v, picks %v, drain %t: %d marks, want %d", threads, picks, drain, len(marks), len(log))
		}
		next := make([]int, len(threads))
		for i, m := range marks {
			e := log[i]
			if want := (api.Mark{Thread: e.thread, Pick: e.picks, Step: next[e.thread], N: threads[e.thread][next[e.thread]].N}); m != want {
				t.Fatalf("%v, picks %v, drain %t: mark %d is %v, want %v", threads, picks, drain, i, m, want)
			}
			next[e.thread]++
		}
		for th := range threads {
			if drain && next[th] != len(threads[th]) {
				t.Fatalf("%v, picks %v: thread %d is drained of %d Ops", threads, picks, th, next[th])
			}
		}
	}
}

// P6.3

// settled waits until no more goroutines are there than before: one that has told its end needs a moment to be gone.
func settled(t *testing.T, before int) {
	t.Helper()
	for end := time.Now().Add(10 * time.Second); runtime.NumGoroutine() > before; {
		if time.Now().After(end) {
			t.Fatalf("%d goroutines, before the run %d", runtime.NumGoroutine(), before)
		}
		runtime.Gosched()
	}
}

func TestNoGoroutineGoesOn(t *testing.T) {
	before := runtime.NumGoroutine()
	r := rand.New(rand.NewSource(63))
	for range 300 {
		run(someLives(r), somePicks(r, 20), r.Intn(2) == 0)
		gate.Play([][]api.Op{{op(r), op(r)}, {op(r)}}, somePicks(r, 3), r.Intn(2) == 0)
		gate.Run(make([]body, r.Intn(12)), somePicks(r, 3), r.Intn(2) == 0)
	}
	settled(t, before)
}

// Run answers when the last deferred call is done, however long that takes.
func TestRunWaitsForDeferredCalls(t *testing.T) {
	for _, c := range []struct {
		picks []int
		drain bool
	}{{nil, false}, {[]int{0}, false}, {[]int{0, 0, 0}, false}, {nil, true}} {
		before := runtime.NumGoroutine()
		ended := 0
		slow := func(g *gate.Gate) {
			defer func() {
				time.Sleep(5 * time.Millisecond)
				ended++
			}()
			g.Step()
			g.Step()
		}
		gate.Run([]body{slow, slow, slow}, c.picks, c.drain)
		if ended != 3 {
			t.Errorf("picks %v, drain %t: %d of three have ended", c.picks, c.drain, ended)
		}
		settled(t, before)
	}
}

// Threads are let go in turn, and the deferred calls of each are done, the last one first, ahead of the next thread's; a Step in them gives up likewise, and no pick is counted for all that.
func TestLetGo(t *testing.T) {
	var order []string
	name := []string{"a", "b", "c", "d"}
	one := func(th int) body {
		say := func(what string) { order = append(order, name[th]+what) }
		return func(g *gate.Gate) {
			defer say("1")
			defer func() {
				say("2")
				g.Step()
				say(" goes on")
			}()
			defer func() {
				defer say("4")
				say("3")
				g.Step()
				say(" goes on")
			}()
			g.Step()
			say(".")
			g.Step()
			say(".")
			g.Step()
			say(" goes on")
		}
	}
	none := func(g *gate.Gate) { order = append(order, "d-") }
	n := gate.Run([]body{one(0), one(1), one(2), none}, []int{1, 2, 1}, false)
	want := []string{"d-", "b.", "c.", "b.", "a3", "a4", "a2", "a1", "b3", "b4", "b2", "b1", "c3", "c4", "c2", "c1"}
	if n != 3 || !slices.Equal(order, want) {
		t.Errorf("%d picks, %v, want %v", n, order, want)
	}
}

// What the gate tells in the deferred calls of a thread that is let go: the Step that gave up is not among those that answered, and the picks are all that there were, whoever's.
func TestTallyOfAThreadThatIsLetGo(t *testing.T) {
	later := []int{tell, poll, point, begin, tell, point, poll, step}
	behind := []int{tell, step}
	for i, c := range []struct {
		acts  []int
		picks []int
		want  event // at the first tell of the deferred call
		next  event // at that of the other one
	}{
		{[]int{step}, nil, event{}, event{polls: 1}},
		{[]int{step}, []int{1, 1}, event{picks: 2}, event{picks: 2, polls: 1, point: 2}},
		{[]int{begin, step}, []int{1}, event{picks: 1}, event{picks: 1, polls: 1, point: 1}},
		{[]int{step, poll, point, step}, []int{1, 0, 1}, event{picks: 3, steps: 1, polls: 1, point: 2}, event{picks: 3, polls: 1, point: 3}},
		{[]int{step, begin, step, point, step}, []int{0, 0, 1, 1}, event{picks: 4, steps: 1, point: 2}, event{picks: 4, polls: 1, point: 4}},
		{[]int{step, begin, poll, step}, []int{0}, event{picks: 1, polls: 1}, event{picks: 1, polls: 1, point: 1}},
	} {
		log, n := run([]life{{acts: c.acts, deferred: [][]int{behind, later}}, {acts: make([]int, 9)}}, c.picks, false)
		tells := slices.DeleteFunc(log, func(e event) bool { return e.act != tell })
		c.want.act, c.next.act = tell, tell
		if want := []event{c.want, {act: tell, picks: c.want.picks}, c.next}; n != len(c.picks) || !slices.Equal(tells, want) {
			t.Errorf("%d: %d picks, %v, want %v", i, n, tells, want)
		}
	}
}

// A body that ends by runtime.Goexit, or by a panic of its own, ends its thread and nothing else.
func TestBodiesThatEndOtherwise(t *testing.T) {
	before := runtime.NumGoroutine()
	for i, end := range []func(){runtime.Goexit, func() { panic("of the body's own") }} {
		var out []done
		other := func(g *gate.Gate) {
			g.Step()
			end()
		}
		if n := gate.Run([]body{other, steps(&out, 1, 2)}, []int{0, 0}, true); n != 4 || !slices.Equal(out, []done{{1, 3}, {1, 4}}) {
			t.Errorf("%d: %d picks, %v", i, n, out)
		}
	}
	settled(t, before)
}

// P6.4

func TestArgumentsAreLeft(t *testing.T) {
	var out []done
	other := steps(&out, 7, 1)
	roomOfBodies := []body{steps(&out, 0, 2), nil, steps(&out, 2, 1), other, other, other}
	roomOfPicks := []int{2, -5, 1 << 40, 0, 77, 78, 79}
	wantPicks := slices.Clone(roomOfPicks)
	for _, drain := range []bool{false, true} {
		out = nil
		gate.Run(roomOfBodies[:3], roomOfPicks[:4], drain)
		for i, b := range roomOfBodies {
			if (b == nil) != (i == 1) {
				t.Errorf("body %d was written over", i)
			}
		}
		out = nil
		for _, b := range roomOfBodies[3:] {
			gate.Run([]body{b}, []int{0}, false)
		}
		if !slices.Equal(roomOfPicks, wantPicks) || !slices.Equal(out, []done{{7, 1}, {7, 1}, {7, 1}}) {
			t.Errorf("drain %t: %v, %v", drain, roomOfPicks, out)
		}
	}
	roomOfOps := []api.Op{{Kind: 1, At: 2, N: 3}, {N: 4}, {N: 5}, {N: 77}, {N: 78}}
	wantOps := slices.Clone(roomOfOps)
	roomOfThreads := [][]api.Op{roomOfOps[:3], roomOfOps[1:2], {{N: 9}}, {{N: 10}}}
	for _, drain := range []bool{false, true} {
		gate.Play(roomOfThreads[:2], roomOfPicks[:4], drain)
		if !slices.Equal(roomOfOps, wantOps) || !slices.Equal(roomOfPicks, wantPicks) || len(roomOfThreads[0]) != 3 || len(roomOfThreads[1]) != 1 || roomOfThreads[2][0].N != 9 || roomOfThreads[3][0].N != 10 {
			t.Errorf("drain %t: %v, %v, %v", drain, roomOfOps, roomOfPicks, roomOfThreads)
		}
	}
}

func TestPlayIsNewMemory(t *testing.T) {
	threads, picks := [][]api.Op{{{N: 5}, {N: 6}, {N: 8}}, {{N: 7}}}, []int{1, 0, 1}
	first := gate.Play(threads, picks, true)
	want := slices.Clone(first)
	second := gate.Play(threads, picks, true)
	second = second[:cap(second)]
	for i := range second {
		second[i] = api.Mark{Thread: -1, N: -1}
	}
	for _, ops := range threads {
		clear(ops)
	}
	clear(picks)
	if !slices.Equal(first, want) {
		t.Errorf("%v, it was %v", first, want)
	}
}
