package word_test

import (
	"math"
	"math/big"
	"math/rand"
	"runtime"
	"slices"
	"sync"
	"testing"
	"time"

	"gnomon/api"
	"gnomon/gate"
	"gnomon/word"
)

// The kinds of an Op.
const (
	none = iota
	load
	store
	add
	swap
)

// edges are numbers at which a word, an Op's At or its Kind may go wrong.
var edges = []int64{0, 1, -1, 2, -2, 5, -7, 1 << 31, -1 << 31, 1 << 32, 1<<32 - 1, 1 << 53, 1 << 62, -1 << 62, math.MaxInt64, math.MaxInt64 - 1, math.MinInt64, math.MinInt64 + 1}

// mark is a step that was done.
func mark(thread, pick, step int, n int64) api.Mark {
	return api.Mark{Thread: thread, Pick: pick, Step: step, N: n}
}

// apply tells what a word that holds x answers to an Op, and what it holds behind it; by big numbers, so that the wrap-round is not that of the program.
func apply(op api.Op, x int64) (answer, holds int64) {
	switch op.Kind {
	case load:
		return x, x
	case store:
		return 0, op.N
	case add:
		sum := new(big.Int).Add(big.NewInt(x), big.NewInt(op.N))
		sum.Mod(sum, new(big.Int).Lsh(big.NewInt(1), 64))
		return x, int64(sum.Uint64())
	default:
		return x, op.N
	}
}

// round tells which of n an At is.
func round(at, n int) int {
	return int(new(big.Int).Mod(big.NewInt(int64(at)), big.NewInt(int64(n))).Int64())
}

// call does an Op by the word's own method.
func call(w *word.Word, g *gate.Gate, op api.Op) int64 {
	switch op.Kind {
	case load:
		return w.Load(g)
	case store:
		w.Store(g, op.N)
		return 0
	case add:
		return w.Add(g, op.N)
	default:
		return w.Swap(g, op.N)
	}
}

// model is a Play as the chapter says it, without threads.
type model struct {
	left  [][]api.Op // of each thread: the Ops with a step, that are not done yet
	steps []int
	picks int
	marks []api.Mark
	words []int64
}

func (m *model) pick(t int) {
	m.picks++
	if len(m.left[t]) == 0 {
		return
	}
	op := m.left[t][0]
	m.left[t] = m.left[t][1:]
	at := round(op.At, len(m.words))
	answer, holds := apply(op, m.words[at])
	m.words[at] = holds
	m.marks = append(m.marks, mark(t, m.picks, m.steps[t], answer))
	m.steps[t]++
}

func (m *model) on() bool {
	return slices.ContainsFunc(m.left, func(ops []api.Op) bool { return len(ops) > 0 })
}

// want tells what Play must tell.
func want(words int, threads [][]api.Op, picks []int, drain bool) ([]api.Mark, []int64) {
	m := &model{words: make([]int64, words), steps: make([]int, len(threads))}
	for _, ops := range threads {
		var left []api.Op
		for _, op := range ops {
			if op.Kind >= load && op.Kind <= swap {
				left = append(left, op)
			}
		}
		m.left = append(m.left, left)
	}
	if len(threads) == 0 {
		return nil, m.words
	}
	for _, p := range picks {
		m.pick(round(p, len(threads)))
	}
	for drain && m.on() {
		for t := range m.left {
			if len(m.left[t]) > 0 {
				m.pick(t)
			}
		}
	}
	return m.marks, m.words
}

func someNumber(r *rand.Rand) int64 {
	switch r.Intn(3) {
	case 0:
		return edges[r.Intn(len(edges))]
	case 1:
		return int64(r.Uint64())
	}
	return r.Int63n(20) - 10
}

func someOps(r *rand.Rand, most int) []api.Op {
	out := make([]api.Op, r.Intn(most+1))
	for i := range out {
		out[i] = api.Op{Kind: 1 + r.Intn(4), At: int(someNumber(r)), N: someNumber(r)}
		if r.Intn(5) == 0 {
			out[i].Kind = int(someNumber(r))
		}
	}
	return out
}

func someThreads(r *rand.Rand) [][]api.Op {
	out := make([][]api.Op, r.Intn(api.MaxThreads+1))
	for t := range out {
		out[t] = someOps(r, 10)
	}
	return out
}

func somePicks(r *rand.Rand, most int) []int {
	out := make([]int, r.Intn(most+1))
	for i := range out {
		out[i] = int(someNumber(r))
	}
	return out
}

func check(t *testing.T, words int, threads [][]api.Op, picks []int, drain bool) {
	t.Helper()
	marks, held := word.Play(words, threads, picks, drain)
	wantMarks, wantHeld := want(words, threads, picks, drain)
	if !slices.Equal(marks, wantMarks) || !slices.Equal(held, wantHeld) {
		t.Fatalf("%d words, %v, picks %v, drain %t:\n%v %v, want\n%v %v", words, threads, picks, drain, marks, held, wantMarks, wantHeld)
	}
}

// P7.1

func TestWordExample(t *testing.T) {
	var w word.Word
	for i, c := range []struct {
		op     api.Op
		answer int64
	}{
		{api.Op{Kind: load}, 0},
		{api.Op{Kind: add, N: 5}, 0},
		{api.Op{Kind: add, N: -7}, 5},
		{api.Op{Kind: swap, N: 9}, -2},
		{api.Op{Kind: load}, 9},
		{api.Op{Kind: store, N: math.MaxInt64}, 0},
		{api.Op{Kind: add, N: 1}, math.MaxInt64},
		{api.Op{Kind: load}, math.MinInt64},
	} {
		if n := call(&w, nil, c.op); n != c.answer {
			t.Errorf("call %d, %v: %d, want %d", i, c.op, n, c.answer)
		}
	}
}

func TestWordAtTheEdges(t *testing.T) {
	for _, x := range edges {
		for _, n := range edges {
			for _, kind := range []int{load, store, add, swap} {
				var w word.Word
				w.Store(nil, x)
				op := api.Op{Kind: kind, N: n}
				answer, holds := apply(op, x)
				if got := call(&w, nil, op); got != answer || w.Load(nil) != holds || w.Load(nil) != holds {
					t.Errorf("a word that held %d, %v: %d, then %d; want %d, %d", x, op, got, w.Load(nil), answer, holds)
				}
			}
		}
	}
}

func TestWordsAreApart(t *testing.T) {
	words := make([]word.Word, 3)
	words[1].Store(nil, -1)
	words[1].Add(nil, 3)
	words[2].Swap(nil, 8)
	for i, n := range []int64{0, 2, 8} {
		if got := words[i].Load(nil); got != n {
			t.Errorf("word %d: %d, want %d", i, got, n)
		}
	}
}

// Each call is one step of its thread, and nothing of it is done ahead of that: while another thread goes first, the word is as it was.
func TestEachCallIsOneStep(t *testing.T) {
	for _, kind := range []int{load, store, add, swap} {
		var w word.Word
		w.Store(nil, 40)
		var seen []int64
		steps, polls, point := -1, -1, -1
		answer := int64(-1)
		first := func(g *gate.Gate) {
			answer = call(&w, g, api.Op{Kind: kind, N: 2})
			steps, polls, point = g.Tally()
		}
		second := func(g *gate.Gate) {
			for range 2 {
				g.Step()
				seen = append(seen, w.Load(nil))
				w.Add(nil, 1)
			}
		}
		gate.Run([]func(g *gate.Gate){first, second}, []int{1, 0, 1}, false)
		wantAnswer, holds := apply(api.Op{Kind: kind, N: 2}, 41)
		if answer != wantAnswer || !slices.Equal(seen, []int64{40, holds}) || w.Load(nil) != holds+1 {
			t.Errorf("kind %d: answer %d, want %d; seen %v; in the end %d", kind, answer, wantAnswer, seen, w.Load(nil))
		}
		if steps != 1 || polls != 0 || point != 0 {
			t.Errorf("kind %d: %d steps, %d polls, the point %d", kind, steps, polls, point)
		}
	}
}

// Who is let go in a call has not done it.
func TestWhoIsLetGoDoesNothing(t *testing.T) {
	for _, kind := range []int{load, store, add, swap} {
		var w word.Word
		w.Store(nil, 3)
		behind, picks := false, 0
		body := func(g *gate.Gate) {
			// In a deferred call, too, nothing is done any more.
			defer call(&w, g, api.Op{Kind: kind, N: 7})
			call(&w, g, api.Op{Kind: kind, N: 5})
			behind = true
		}
		picks = gate.Run([]func(g *gate.Gate){body}, nil, false)
		if behind || picks != 0 || w.Load(nil) != 3 {
			t.Errorf("kind %d: went on: %t, %d picks, the word holds %d", kind, behind, picks, w.Load(nil))
		}
	}
}

func TestPlayExamples(t *testing.T) {
	for i, c := range []struct {
		words   int
		threads [][]api.Op
		picks   []int
		drain   bool
		marks   []api.Mark
		held    []int64
	}{
		{2, [][]api.Op{{{Kind: add, N: 1}, {Kind: load, At: 1}}, {{Kind: swap, At: 3, N: 7}}}, []int{0, 1, 0}, false, []api.Mark{mark(0, 1, 0, 0), mark(1, 2, 0, 0), mark(0, 3, 1, 7)}, []int64{1, 7}},
		{0, [][]api.Op{{{Kind: load}}}, []int{0}, true, nil, nil},
		{1048577, [][]api.Op{{{Kind: load}}}, []int{0}, true, nil, nil},
		{1, [][]api.Op{{{Kind: none, N: 3}, {Kind: load, At: -5}}}, []int{0}, false, []api.Mark{mark(0, 1, 0, 0)}, []int64{0}},
	} {
		marks, held := word.Play(c.words, c.threads, c.picks, c.drain)
		if !slices.Equal(marks, c.marks) || !slices.Equal(held, c.held) {
			t.Errorf("%d: %v %v, want %v %v", i, marks, held, c.marks, c.held)
		}
	}
}

// A Store's mark has N 0, whatever it stored and whatever the word held.
func TestPlayMarks(t *testing.T) {
	ops := []api.Op{{Kind: store, N: 4}, {Kind: store, N: 6}, {Kind: add, N: 10}, {Kind: swap, N: -1}, {Kind: load}}
	marks, held := word.Play(1, [][]api.Op{nil, ops}, []int{0, 1, 1, 0, 1, 1, 1, 1}, false)
	if want := []api.Mark{mark(1, 2, 0, 0), mark(1, 3, 1, 0), mark(1, 5, 2, 6), mark(1, 6, 3, 16), mark(1, 7, 4, -1)}; !slices.Equal(marks, want) || !slices.Equal(held, []int64{-1}) {
		t.Errorf("%v %v, want %v", marks, held, want)
	}
}

func TestHowManyWords(t *testing.T) {
	threads := [][]api.Op{{{Kind: add, At: -1, N: 3}, {Kind: add, At: 0, N: 4}}}
	for _, n := range []int{0, -1, -2, math.MinInt, api.MaxCells + 1, api.MaxCells * 2, 1 << 32, 1<<32 + 1, math.MaxInt} {
		for _, drain := range []bool{false, true} {
			if marks, held := word.Play(n, threads, []int{0}, drain); marks != nil || held != nil {
				t.Errorf("%d words: %v, %d words", n, marks, len(held))
			}
		}
	}
	for _, n := range []int{1, 2, 3, 100, api.MaxCells - 1, api.MaxCells} {
		marks, held := word.Play(n, threads, nil, true)
		if len(marks) != 2 || len(held) != n {
			t.Fatalf("%d words: %v, %d words", n, marks, len(held))
		}
		sum := int64(0)
		for _, x := range held {
			sum += x
		}
		if n > 1 && (held[0] != 4 || held[n-1] != 3) || sum != 7 {
			t.Errorf("%d words: the first one holds %d, the last one %d, all %d", n, held[0], held[n-1], sum)
		}
	}
}

func TestHowManyThreads(t *testing.T) {
	for n := range 12 {
		var threads [][]api.Op
		for range n {
			threads = append(threads, []api.Op{{Kind: add, N: 1}})
		}
		if n <= api.MaxThreads {
			check(t, 2, threads, []int{-1, 3}, true)
			check(t, 2, threads, []int{-1, 3}, false)
			continue
		}
		if marks, held := word.Play(2, threads, []int{-1, 3}, true); marks != nil || held != nil {
			t.Errorf("%d threads: %v, %v", n, marks, held)
		}
	}
	if marks, held := word.Play(1, make([][]api.Op, 1000), nil, true); marks != nil || held != nil {
		t.Errorf("1000 threads: %v, %v", marks, held)
	}
	for _, threads := range [][][]api.Op{nil, {}} {
		if marks, held := word.Play(3, threads, []int{0, 1}, true); len(marks) != 0 || !slices.Equal(held, make([]int64, 3)) {
			t.Errorf("no threads: %v, %v", marks, held)
		}
	}
	for n := range api.MaxThreads + 1 {
		if marks, held := word.Play(2, make([][]api.Op, n), []int{0, 1}, true); len(marks) != 0 || !slices.Equal(held, make([]int64, 2)) {
			t.Errorf("%d threads without Ops: %v, %v", n, marks, held)
		}
	}
}

func TestAtCountsRound(t *testing.T) {
	for _, n := range []int{1, 2, 3, 7, 64, api.MaxCells} {
		for _, at := range []int{0, 1, n - 1, n, n + 1, -1, -n, -n - 1, 2*n - 1, 1 << 32, -1 << 32, 1 << 40, math.MaxInt, math.MaxInt - 1, math.MinInt, math.MinInt + 1} {
			marks, held := word.Play(n, [][]api.Op{{{Kind: store, At: at, N: 5}}}, []int{0}, false)
			want := make([]int64, n)
			want[round(at, n)] = 5
			if len(marks) != 1 || !slices.Equal(held, want) {
				t.Errorf("of %d words the number %d is the word %d, want %d", n, at, slices.Index(held, 5), round(at, n))
			}
		}
	}
}

// An Op of no kind is no step: the thread goes on to its next one, and it counts neither picks nor steps.
func TestOpsOfNoKind(t *testing.T) {
	for _, kind := range []int{none, -1, -2, -3, -4, 5, 6, 255, 257, 1 << 32, 1<<32 + 1, math.MaxInt, math.MinInt, math.MinInt + 1} {
		odd := api.Op{Kind: kind, N: 9}
		check(t, 1, [][]api.Op{{odd}, {odd, odd}}, []int{0, 1, 1}, true)
		threads := [][]api.Op{{odd, {Kind: add, N: 1}, odd, odd, {Kind: load}, odd}, {odd}}
		marks, held := word.Play(1, threads, []int{1, 0}, true)
		if want := []api.Mark{mark(0, 2, 0, 0), mark(0, 3, 1, 1)}; !slices.Equal(marks, want) || !slices.Equal(held, []int64{1}) {
			t.Errorf("kind %d: %v %v", kind, marks, held)
		}
	}
}

// What has not been picked when the picks have ended is not done, unless it is drained.
func TestPlayIsDrainedOrNot(t *testing.T) {
	threads := [][]api.Op{{{Kind: add, N: 1}, {Kind: add, N: 10}}, {{Kind: add, N: 100}, {Kind: add, N: 1000}}}
	marks, held := word.Play(1, threads, []int{1}, false)
	if !slices.Equal(marks, []api.Mark{mark(1, 1, 0, 0)}) || !slices.Equal(held, []int64{100}) {
		t.Errorf("not drained: %v %v", marks, held)
	}
	marks, held = word.Play(1, threads, []int{1}, true)
	if want := []api.Mark{mark(1, 1, 0, 0), mark(0, 2, 0, 100), mark(1, 3, 1, 101), mark(0, 4, 1, 1101)}; !slices.Equal(marks, want) || !slices.Equal(held, []int64{1111}) {
		t.Errorf("drained: %v %v", marks, held)
	}
}

func TestPlayGoesAsTheModel(t *testing.T) {
	r := rand.New(rand.NewSource(71))
	for range 4000 {
		check(t, 1+r.Intn(5), someThreads(r), somePicks(r, 60), r.Intn(2) == 0)
	}
}

// Each Play has words of its own, and has ended when it answers.
func TestPlayIsAlikeEachTime(t *testing.T) {
	r := rand.New(rand.NewSource(72))
	before := runtime.NumGoroutine()
	for range 300 {
		words, threads, picks, drain := 1+r.Intn(5), someThreads(r), somePicks(r, 60), r.Intn(2) == 0
		marks, held := word.Play(words, threads, picks, drain)
		for range 3 {
			marksAgain, heldAgain := word.Play(words, threads, picks, drain)
			if !slices.Equal(marks, marksAgain) || !slices.Equal(held, heldAgain) {
				t.Fatalf("%v, picks %v: %v %v, and then %v %v", threads, picks, marks, held, marksAgain, heldAgain)
			}
		}
	}
	for range 1000 {
		if runtime.NumGoroutine() <= before {
			return
		}
		time.Sleep(time.Millisecond)
	}
	t.Errorf("%d goroutines, %d before", runtime.NumGoroutine(), before)
}

func TestPlaysAtOneTime(t *testing.T) {
	var wait sync.WaitGroup
	for i := range 8 {
		wait.Add(1)
		go func() {
			defer wait.Done()
			r := rand.New(rand.NewSource(int64(730 + i)))
			for range 200 {
				words, threads, picks, drain := 1+r.Intn(5), someThreads(r), somePicks(r, 40), r.Intn(2) == 0
				marks, held := word.Play(words, threads, picks, drain)
				wantMarks, wantHeld := want(words, threads, picks, drain)
				if !slices.Equal(marks, wantMarks) || !slices.Equal(held, wantHeld) {
					t.Errorf("%v, picks %v: %v %v", threads, picks, marks, held)
					return
				}
			}
		}()
	}
	wait.Wait()
}

// P7.2

// The marks of a run, done one behind the other in the order of the picks by one who has no gate, are answered alike.
func TestPlayIsLinear(t *testing.T) {
	r := rand.New(rand.NewSource(74))
	for range 2000 {
		words, threads, picks, drain := 1+r.Intn(4), someThreads(r), somePicks(r, 80), r.Intn(2) == 0
		for i, ops := range threads {
			threads[i] = slices.DeleteFunc(ops, func(op api.Op) bool { return op.Kind < load || op.Kind > swap })
		}
		marks, held := word.Play(words, threads, picks, drain)
		plain := make([]word.Word, words)
		pick, steps := 0, make([]int, len(threads))
		for _, m := range marks {
			if m.Pick <= pick || m.Step != steps[m.Thread] {
				t.Fatalf("%v: %v is out of order", threads, marks)
			}
			op := threads[m.Thread][m.Step]
			if n := call(&plain[round(op.At, words)], nil, op); n != m.N {
				t.Fatalf("%v: %v of %v, one behind the other: %d", threads, m, marks, n)
			}
			pick = m.Pick
			steps[m.Thread]++
		}
		for i := range plain {
			if plain[i].Load(nil) != held[i] {
				t.Fatalf("%v: the word %d holds %d, one behind the other %d", threads, i, held[i], plain[i].Load(nil))
			}
		}
		for i, n := range steps {
			if drain && n != len(threads[i]) {
				t.Fatalf("%v: thread %d did %d steps", threads, i, n)
			}
		}
	}
}

// Bodies of the gate's go likewise: in all orders of two threads' steps.
func TestRunIsLinear(t *testing.T) {
	threads := [][]api.Op{{{Kind: add, N: 1}, {Kind: load}, {Kind: swap, N: 5}}, {{Kind: store, N: 7}, {Kind: add, N: -3}, {Kind: load}}}
	for bits := range 1 << 6 {
		var w, plain word.Word
		var got, want []int64
		var picks []int
		next := [2]int{}
		for i := range 6 {
			th := bits >> i & 1
			picks = append(picks, th)
			if next[th] < 3 {
				want = append(want, call(&plain, nil, threads[th][next[th]]))
				next[th]++
			}
		}
		var bodies []func(g *gate.Gate)
		for _, ops := range threads {
			bodies = append(bodies, func(g *gate.Gate) {
				for _, op := range ops {
					got = append(got, call(&w, g, op))
				}
			})
		}
		gate.Run(bodies, picks, false)
		if !slices.Equal(got, want) || w.Load(nil) != plain.Load(nil) {
			t.Errorf("picks %v: %v, in the end %d; want %v, %d", picks, got, w.Load(nil), want, plain.Load(nil))
		}
	}
}

// P7.3

// atOnce lets goroutines go at one time, and waits for all of them.
func atOnce(n int, do func(i int)) {
	var wait sync.WaitGroup
	begin := make(chan bool)
	for i := range n {
		wait.Add(1)
		go func() {
			defer wait.Done()
			<-begin
			do(i)
		}()
	}
	close(begin)
	wait.Wait()
}

func TestAddsAtOnce(t *testing.T) {
	for _, n := range []int64{1, 2, -1, -3, 1 << 40} {
		for _, from := range []int64{0, -50000, 1 << 33} {
			var w word.Word
			w.Store(nil, from)
			told := make([][]int64, 8)
			atOnce(8, func(i int) {
				for range 2000 {
					told[i] = append(told[i], w.Add(nil, n))
				}
			})
			if got := w.Load(nil); got != from+16000*n {
				t.Errorf("from %d on, 16000 Adds of %d: %d", from, n, got)
			}
			all := slices.Concat(told...)
			slices.SortFunc(all, func(a, b int64) int {
				if (a < b) == (n > 0) {
					return -1
				}
				return 1
			})
			for k, x := range all {
				if x != from+int64(k)*n {
					t.Fatalf("Adds of %d: %d is told twice, or not at all", n, from+int64(k)*n)
				}
			}
		}
	}
}

// Whatever numbers are added: the word holds their sum, round 2^64.
func TestAddsOfAllNumbersAtOnce(t *testing.T) {
	var w word.Word
	sums := make([]int64, 8)
	atOnce(8, func(i int) {
		r := rand.New(rand.NewSource(int64(750 + i)))
		for range 3000 {
			n := someNumber(r)
			sums[i] += n
			w.Add(nil, n)
		}
	})
	sum := int64(0)
	for _, n := range sums {
		sum += n
	}
	if w.Load(nil) != sum {
		t.Errorf("%d, want %d", w.Load(nil), sum)
	}
}

// What was swapped in is told by just one other Swap, or is there in the end.
func TestSwapsAtOnce(t *testing.T) {
	var w word.Word
	told := make([][]int64, 8)
	atOnce(8, func(i int) {
		for k := range 2000 {
			told[i] = append(told[i], w.Swap(nil, int64(1+i*2000+k)))
		}
	})
	all := append(slices.Concat(told...), w.Load(nil))
	slices.Sort(all)
	for k, x := range all {
		if x != int64(k) {
			t.Fatalf("%d is told twice, or not at all", k)
		}
	}
}

// A word is stored and loaded whole: no Load tells halves of two numbers.
func TestStoresAtOnce(t *testing.T) {
	var w word.Word
	one := func(i int) int64 { return int64(i) * 0x0101010101010101 }
	bad := make([]int64, 8)
	atOnce(8, func(i int) {
		for range 5000 {
			w.Store(nil, one(i))
			if x := w.Load(nil); x != one(int(x&0xff)) {
				bad[i] = x
			}
		}
	})
	for _, x := range bad {
		if x != 0 {
			t.Errorf("%x was never stored", x)
		}
	}
}

// P7.4

func TestArgumentsAreLeft(t *testing.T) {
	r := rand.New(rand.NewSource(76))
	for range 500 {
		room := someThreads(r)
		for i, ops := range room {
			ops = append(ops, api.Op{Kind: 3, At: 1, N: 77}, api.Op{Kind: 4, At: 2, N: 78})
			room[i] = ops[:len(ops)-2]
		}
		threads := append(slices.Clone(room), []api.Op{{Kind: 3, N: 79}})[:len(room)]
		picks := append(somePicks(r, 30), 3, 4, 5)
		picks = picks[:len(picks)-3]
		wasPicks := slices.Clone(picks[:cap(picks)])
		var was [][]api.Op
		for _, ops := range threads[:len(threads)+1] {
			was = append(was, slices.Clone(ops[:cap(ops)]))
		}
		word.Play(1+r.Intn(4), threads, picks, r.Intn(2) == 0)
		for i, ops := range threads[:len(threads)+1] {
			if !slices.Equal(ops[:cap(ops)], was[i]) {
				t.Fatalf("thread %d was %v, is %v", i, was[i], ops[:cap(ops)])
			}
		}
		if !slices.Equal(picks[:cap(picks)], wasPicks) {
			t.Fatalf("the picks were %v, are %v", wasPicks, picks[:cap(picks)])
		}
	}
}

// What is written over an answer, its spare room too, or over the arguments behind the call, is not seen by anybody.
func TestAnswersAreNewMemory(t *testing.T) {
	threads := [][]api.Op{{{Kind: add, N: 1}, {Kind: add, At: 1, N: 2}, {Kind: load}}, {{Kind: swap, At: 1, N: 7}}}
	picks := []int{0, 1, 0}
	marks, held := word.Play(2, threads, picks, true)
	wantMarks, wantHeld := slices.Clone(marks), slices.Clone(held)
	again, heldAgain := word.Play(2, threads, picks, true)
	for i := range again[:cap(again)] {
		again[:cap(again)][i] = api.Mark{Thread: 9, Pick: 9, Step: 9, N: 9}
	}
	for i := range heldAgain[:cap(heldAgain)] {
		heldAgain[:cap(heldAgain)][i] = 9
	}
	if !slices.Equal(marks, wantMarks) || !slices.Equal(held, wantHeld) {
		t.Errorf("an answer changed another one: %v %v", marks, held)
	}
	if third, heldThird := word.Play(2, threads, picks, true); !slices.Equal(third, wantMarks) || !slices.Equal(heldThird, wantHeld) {
		t.Errorf("an answer that was written over changed the next one: %v %v", third, heldThird)
	}
	clear(threads[0])
	clear(picks)
	if !slices.Equal(marks, wantMarks) || !slices.Equal(held, wantHeld) {
		t.Errorf("the arguments, written over, changed the answer: %v %v", marks, held)
	}
}
