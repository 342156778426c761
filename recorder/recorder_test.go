package recorder_test

import (
	"fmt"
	"math"
	"math/rand"
	"slices"
	"sync"
	"testing"
	"time"

	"gnomon/api"
	"gnomon/gate"
	"gnomon/recorder"
	"gnomon/slab"
)

const (
	greatest = math.MaxInt64
	least    = math.MinInt64
)

var (
	minusZero = math.Copysign(0, -1)
	inf       = math.Inf(1)
	nan       = math.NaN()
)

// kinds are all there are.
var kinds = []int{api.Counter, api.Histogram, api.Summary}

// noBuffers are numbers that are none.
var noBuffers = []int{-1, -2, 2, 3, 1 << 8, 1<<8 + 1, 1 << 32, 1<<32 + 1, math.MaxInt, math.MinInt, math.MinInt + 1}

// noStripes are numbers that no slab has a stripe of.
var noStripes = []int{-1, -2, 16, 17, 1 << 8, 1<<8 + 1, 1 << 32, 1<<32 + 1, 1 << 62, math.MaxInt, math.MinInt, math.MinInt + 1}

// noWholes and noFloats may not be recorded; the wholes and floats, edges among them, may.
var (
	noWholes = []int64{-1, -2, -1 << 31, -1 << 32, least, least + 1}
	noFloats = []float64{nan, -nan, inf, -inf, 0x1p961, -0x1p961, math.Nextafter(0x1p960, inf), math.Nextafter(-0x1p960, -inf), math.MaxFloat64, -math.MaxFloat64, math.Float64frombits(0xfff0000000000001)}
	wholes   = []int64{0, 1, 2, 3, 7, 8, 255, 256, 1<<31 - 1, 1 << 31, 1 << 32, 1<<53 + 1, 1 << 62, greatest - 1, greatest}
	floats   = []float64{0, minusZero, 1, -1, 2.5, 0.1, -0.3, 1e16, -1e16, 0x1p53, 3, 0x1p960, -0x1p960, math.Nextafter(0x1p960, 0), math.SmallestNonzeroFloat64, -math.SmallestNonzeroFloat64}
)

// laid makes a slab of the precision 1.
func laid(t *testing.T, kind, stripes int) *slab.Slab {
	t.Helper()
	s, e := slab.New(kind, stripes, 1)
	if e != api.OK {
		t.Fatalf("slab.New(%d, %d, 1): %v", kind, stripes, e)
	}
	return s
}

// record is a call by a kind: which of n and x counts, the kind tells.
type record struct {
	kind int
	n    int64
	x    float64
}

func (c record) do(r *recorder.Recorder, g *gate.Gate, to *slab.Slab) api.Errno {
	switch c.kind {
	case api.Counter:
		return r.Add(g, to, c.n)
	case api.Histogram:
		return r.Observe(g, to, c.n)
	}
	return r.Sample(g, to, c.x)
}

// may tells whether its value may be recorded.
func (c record) may() bool {
	if c.kind == api.Summary {
		return c.x >= -0x1p960 && c.x <= 0x1p960
	}
	return c.n >= 0
}

// must does a record that may be.
func must(t *testing.T, r *recorder.Recorder, to *slab.Slab, l ...record) {
	t.Helper()
	for _, c := range l {
		if e := c.do(r, nil, to); e != api.OK {
			t.Fatalf("%+v: %v", c, e)
		}
	}
}

// drained tells what lies in a buffer, which is empty then.
func drained(t *testing.T, s *slab.Slab, buffer int) slab.Part {
	t.Helper()
	p, e := s.Drain(nil, buffer)
	if e != api.OK {
		t.Fatalf("Drain(%d): %v", buffer, e)
	}
	return p
}

// same tells whether two things are told alike: of floats that means bit by bit, and a list without elements is one, nil or not.
func same(a, b any) bool { return fmt.Sprintf("%+v", a) == fmt.Sprintf("%+v", b) }

// wants holds a thing against another one.
func wants(t *testing.T, what, got, want any) {
	t.Helper()
	if !same(got, want) {
		t.Fatalf("%+v: %+v, not %+v", what, got, want)
	}
}

// tally is what a gate tells of a call.
type tally struct{ steps, polls, point int }

// alone lets one call go to its end by itself, and tells its tally.
func alone(do func(g *gate.Gate)) (out tally) {
	gate.Run([]func(g *gate.Gate){func(g *gate.Gate) {
		g.Begin()
		do(g)
		out.steps, out.polls, out.point = g.Tally()
	}}, nil, true)
	return out
}

// upTo lets something do its first n steps, and no more.
func upTo(n int, do func(g *gate.Gate)) {
	gate.Run([]func(g *gate.Gate){do}, make([]int, n), false)
}

// turned tells the buffer that a Turn tells, when nobody is in.
func turned(t *testing.T, s *recorder.Shared) int {
	t.Helper()
	buffer, polls := s.Turn(nil)
	if polls != 0 {
		t.Errorf("Turn: %d polls, and nobody is in", polls)
	}
	return buffer
}

// isIn tells whether a Turn would wait for somebody; nothing more is to be asked of that Shared.
func isIn(s *recorder.Shared) bool {
	ended := false
	upTo(20, func(g *gate.Gate) {
		s.Turn(g)
		ended = true
	})
	return !ended
}

// P14.1: every call answers as said and does just the steps that are said, whoever's step comes between.

func TestExampleOfBuffers(t *testing.T) {
	s := recorder.New()
	x, c := s.Recorder(0), laid(t, api.Counter, 1)
	if e := x.Add(nil, c, 5); e != api.OK {
		t.Errorf("Add(5): %v", e)
	}
	if buffer, polls := s.Turn(nil); buffer != 0 || polls != 0 {
		t.Errorf("Turn: %d, %d polls", buffer, polls)
	}
	wants(t, "Drain of 0", drained(t, c, 0), slab.Part{Total: api.Int{Lo: 5}})
	if e := x.Add(nil, c, 2); e != api.OK {
		t.Errorf("Add(2): %v", e)
	}
	wants(t, "Drain of 0", drained(t, c, 0), slab.Part{})
	wants(t, "Drain of 1", drained(t, c, 1), slab.Part{Total: api.Int{Lo: 2}})
}

func TestExampleOfRefusals(t *testing.T) {
	s := recorder.New()
	x, c := s.Recorder(0), laid(t, api.Counter, 1)
	s.Turn(nil)
	if a, b := x.Add(nil, c, -1), x.Observe(nil, c, 1); a != api.ErrRange || b != api.ErrKind {
		t.Errorf("Add(-1), Observe(1): %v, %v", a, b)
	}
	if a, b, d := x.Close(), x.Close(), x.Add(nil, c, 1); a != api.OK || b != api.ErrState || d != api.ErrState {
		t.Errorf("Close, Close, Add: %v, %v, %v", a, b, d)
	}
	if a, b, none := s.Refused(nil, 1), s.Refused(nil, 1), s.Refused(nil, 2); a != 3 || b != 0 || none != 0 {
		t.Errorf("Refused: %d, %d, %d", a, b, none)
	}
	if n := s.Refused(nil, 0); n != 0 {
		t.Errorf("Refused of the other buffer: %d", n)
	}
}

func TestExampleOfSteps(t *testing.T) {
	s := recorder.New()
	x, c := s.Recorder(0), laid(t, api.Counter, 1)
	for _, n := range []int64{5, -1} {
		if got := alone(func(g *gate.Gate) { x.Add(g, c, n) }); got != (tally{4, 0, 2}) {
			t.Errorf("Add(%d): %+v", n, got)
		}
	}
}

// The second of the document's examples of the whole: a thread rests that has loaded the buffer 0, and a Turn waits for it, while another thread's record goes into the buffer 1, and ends.
func TestExampleOfTheWhole(t *testing.T) {
	s, c := recorder.New(), laid(t, api.Counter, 2)
	var ends []string
	var told slab.Part
	first := func(g *gate.Gate) {
		s.Recorder(0).Add(g, c, 5)
		ends = append(ends, "first")
	}
	other := func(g *gate.Gate) {
		s.Recorder(1).Add(g, c, 7)
		ends = append(ends, "other")
	}
	turn := func(g *gate.Gate) {
		buffer, polls := s.Turn(g)
		_, noted, point := g.Tally()
		if buffer != 0 || polls != 3 || noted != 3 || point != 3 {
			t.Errorf("Turn: %d, %d polls, %d noted, the point %d", buffer, polls, noted, point)
		}
		told = drained(t, c, buffer)
		ends = append(ends, "turn")
	}
	picks := []int{0, 0, 2, 2, 2, 2, 2, 2, 1, 1, 1, 1, 2, 0, 0, 2}
	gate.Run([]func(g *gate.Gate){first, other, turn}, picks, false)
	wants(t, "ends", ends, []string{"other", "first", "turn"})
	wants(t, "the Turn", told, slab.Part{Total: api.Int{Lo: 5}})
	wants(t, "the other buffer", drained(t, c, 1), slab.Part{Total: api.Int{Lo: 7}})
}

// How many steps each record does, and that its point is the second one: entering, the Load, the instrument's, leaving.
func TestStepsOfRecords(t *testing.T) {
	add := func(n int64) record { return record{kind: api.Counter, n: n} }
	observe := func(v int64) record { return record{kind: api.Histogram, n: v} }
	sample := func(x float64) record { return record{kind: api.Summary, x: x} }
	for _, c := range []struct {
		ahead []record
		then  record
		steps int
	}{
		{nil, add(0), 4},
		{nil, add(greatest), 4},
		{[]record{add(greatest), add(greatest)}, add(1), 4},
		{[]record{add(greatest), add(greatest)}, add(2), 5},
		{[]record{add(greatest), add(greatest)}, add(greatest), 5},
		{nil, observe(0), 5},
		{[]record{observe(greatest), observe(greatest)}, observe(1), 5},
		{[]record{observe(greatest), observe(greatest)}, observe(2), 6},
		{nil, sample(2.5), 12},
		{[]record{sample(2.5)}, sample(2.5), 10},
		{[]record{sample(2.5)}, sample(minusZero), 11},
		{[]record{sample(minusZero)}, sample(0), 11},
		{[]record{sample(2.5), sample(minusZero)}, sample(0), 10},
		{nil, sample(-0x1p960), 12},
	} {
		for buffer := range 2 {
			for _, stripe := range []int{0, 15} {
				s, to := recorder.New(), laid(t, c.then.kind, 16)
				if buffer == 1 {
					s.Turn(nil)
				}
				x := s.Recorder(stripe)
				must(t, x, to, c.ahead...)
				e := api.ErrArg
				if got := alone(func(g *gate.Gate) { e = c.then.do(x, g, to) }); e != api.OK || got != (tally{c.steps, 0, 2}) {
					t.Errorf("%+v behind %v, buffer %d: %v, %+v", c.then, c.ahead, buffer, e, got)
				}
			}
		}
	}
}

// refusal tells which error a record is refused with, OK, if it isn't; inside says whether the slab has the stripe.
func refusal(closed bool, c record, kind int, inside bool) api.Errno {
	switch {
	case closed:
		return api.ErrState
	case c.kind != kind:
		return api.ErrKind
	case !c.may():
		return api.ErrRange
	case !inside:
		return api.ErrArg
	}
	return api.OK
}

// Whatever is wrong, and however much of it: the first error is told, in four steps of which the second one is the point; the record is counted once, in the active buffer; nothing else has changed.
func TestRecordsAreRefused(t *testing.T) {
	seen := map[api.Errno]int{}
	for _, kind := range kinds {
		for _, of := range kinds {
			for _, closed := range []bool{false, true} {
				for _, stripe := range append([]int{0, 1, 2}, noStripes...) {
					for buffer := range 2 {
						for i := range 12 {
							c := record{kind: of, n: 5, x: 5}
							if i > 0 {
								c.n, c.x = noWholes[i%len(noWholes)], noFloats[i%len(noFloats)]
							}
							e := refusal(closed, c, kind, stripe >= 0 && stripe < 2)
							if e == api.OK {
								continue
							}
							seen[e]++
							refused(t, c, kind, closed, stripe, buffer, e)
						}
					}
				}
			}
		}
	}
	if len(seen) != 4 {
		t.Errorf("refused with %v alone", seen)
	}
}

// refused does a record of a slab of two stripes that must be refused with that error.
func refused(t *testing.T, c record, kind int, closed bool, stripe, buffer int, want api.Errno) {
	t.Helper()
	s, to := recorder.New(), laid(t, kind, 2)
	if buffer == 1 {
		s.Turn(nil)
	}
	must(t, s.Recorder(1), to, record{kind, 7, 2.5})
	x := s.Recorder(stripe)
	if closed {
		x.Close()
	}
	e := api.OK
	got := alone(func(g *gate.Gate) { e = c.do(x, g, to) })
	if e != want || got != (tally{4, 0, 2}) {
		t.Fatalf("%+v of kind %d, closed: %t, stripe %d: %v, not %v; %+v", c, kind, closed, stripe, e, want, got)
	}
	if again := c.do(x, nil, to); again != want {
		t.Fatalf("%+v of kind %d, without a gate: %v, not %v", c, kind, again, want)
	}
	if x.Closed() != closed || x.Stripe() != stripe {
		t.Fatalf("%+v: closed: %t, stripe %d", c, x.Closed(), x.Stripe())
	}
	if n, other := s.Refused(nil, buffer), s.Refused(nil, 1-buffer); n != 2 || other != 0 {
		t.Fatalf("%+v: of 2 refused in the buffer %d these are counted: %d, in the other one %d", c, buffer, n, other)
	}
	if now := turned(t, s); now != buffer {
		t.Fatalf("%+v: the buffer is %d now, not %d", c, now, buffer)
	}
	r := &row{}
	r.keep(record{kind, 7, 2.5})
	wants(t, c, drained(t, to, buffer), r.part(kind))
	wants(t, c, drained(t, to, 1-buffer), slab.Part{})
}

// Whether a value may be recorded is told alike of a stripe that is there (ErrRange, OK) and of one that isn't (ErrRange, ErrArg), at the edges too.
func TestEdgesOfValues(t *testing.T) {
	s := recorder.New()
	in, out := s.Recorder(0), s.Recorder(1)
	check := func(c record, wantIn, wantOut api.Errno) {
		t.Helper()
		to := laid(t, c.kind, 1)
		if a, b := c.do(in, nil, to), c.do(out, nil, to); a != wantIn || b != wantOut {
			t.Errorf("%+v: %v and %v, not %v and %v", c, a, b, wantIn, wantOut)
		}
	}
	for _, kind := range kinds[:2] {
		for _, n := range wholes {
			check(record{kind: kind, n: n}, api.OK, api.ErrArg)
		}
		for _, n := range noWholes {
			check(record{kind: kind, n: n}, api.ErrRange, api.ErrRange)
		}
	}
	for _, x := range floats {
		check(record{kind: api.Summary, x: x}, api.OK, api.ErrArg)
	}
	for _, x := range noFloats {
		check(record{kind: api.Summary, x: x}, api.ErrRange, api.ErrRange)
	}
}

// A recorder goes by the slab's own stripes: one is a stripe of one slab, and none of another.
func TestStripesOfSlabs(t *testing.T) {
	for _, kind := range kinds {
		for stripes := 1; stripes <= 16; stripes++ {
			s, to := recorder.New(), laid(t, kind, stripes)
			out := uint64(0)
			for stripe := -1; stripe <= 17; stripe++ {
				want := api.OK
				if stripe < 0 || stripe >= stripes {
					want = api.ErrArg
					out++
				}
				if e := (record{kind, 1, 1}).do(s.Recorder(stripe), nil, to); e != want {
					t.Errorf("kind %d, stripe %d of %d: %v", kind, stripe, stripes, e)
				}
			}
			if n := s.Refused(nil, 0); n != out {
				t.Errorf("kind %d, %d stripes: %d refused, not %d", kind, stripes, n, out)
			}
			if p := drained(t, to, 0); p.N+p.Total.Lo != uint64(stripes)*[]uint64{1, 2, 1}[kind-1] {
				t.Errorf("kind %d, %d stripes: %+v", kind, stripes, p)
			}
		}
	}
}

// Each stripe has cells of its own: a Drain that has gone so far has emptied those ahead, and no others.
func TestRecordsLieInTheirStripe(t *testing.T) {
	for stripe := range 16 {
		for k := range 17 {
			s, to := recorder.New(), laid(t, api.Counter, 16)
			must(t, s.Recorder(stripe), to, record{kind: api.Counter, n: 9})
			upTo(2*k, func(g *gate.Gate) { to.Drain(g, 0) })
			want := slab.Part{}
			if stripe >= k {
				want.Total.Lo = 9
			}
			wants(t, []int{stripe, k}, drained(t, to, 0), want)
		}
	}
}

func TestRefusedIsOneStep(t *testing.T) {
	s := recorder.New()
	x, c := s.Recorder(0), laid(t, api.Counter, 1)
	for round := range 4 {
		buffer := round % 2
		for range round {
			x.Add(nil, c, -1)
		}
		for _, want := range []uint64{uint64(round), 0} {
			n := uint64(77)
			if got := alone(func(g *gate.Gate) { n = s.Refused(g, buffer) }); n != want || got != (tally{1, 0, 0}) {
				t.Errorf("round %d: %d, not %d; %+v", round, n, want, got)
			}
		}
		if now := turned(t, s); now != buffer {
			t.Errorf("round %d: the buffer %d", round, now)
		}
	}
}

// What lies in one buffer is left when the other one is asked, and when one is asked that is none.
func TestRefusedOfBuffersThatAreNone(t *testing.T) {
	s := recorder.New()
	x, c := s.Recorder(0), laid(t, api.Counter, 1)
	for n := range 5 {
		if n == 2 {
			s.Turn(nil)
		}
		x.Add(nil, c, -1)
	}
	for _, buffer := range noBuffers {
		n := uint64(77)
		if got := alone(func(g *gate.Gate) { n = s.Refused(g, buffer) }); n != 0 || got != (tally{}) {
			t.Errorf("Refused(%d): %d, %+v", buffer, n, got)
		}
		if n := s.Refused(nil, buffer); n != 0 {
			t.Errorf("Refused(%d): %d", buffer, n)
		}
	}
	if a, b := s.Refused(nil, 1), s.Refused(nil, 0); a != 3 || b != 2 {
		t.Errorf("Refused: %d, %d", a, b)
	}
}

// Neither making a recorder nor asking or closing it is a step; of whatever stripe.
func TestRecordersOfAnyStripe(t *testing.T) {
	s := recorder.New()
	for _, stripe := range append([]int{0, 1, 15}, noStripes...) {
		got := alone(func(g *gate.Gate) {
			x, y := s.Recorder(stripe), s.Recorder(stripe)
			if x == nil || x == y || x.Stripe() != stripe || x.Closed() {
				t.Fatalf("the stripe %d: %+v", stripe, x)
			}
			if e := x.Close(); e != api.OK || !x.Closed() || x.Stripe() != stripe {
				t.Errorf("the stripe %d: %v, closed: %t", stripe, e, x.Closed())
			}
			for range 3 {
				if e := x.Close(); e != api.ErrState || !x.Closed() {
					t.Errorf("the stripe %d: %v, closed: %t", stripe, e, x.Closed())
				}
			}
			if y.Closed() || s.Recorder(stripe).Closed() {
				t.Errorf("the stripe %d: another one is closed, too", stripe)
			}
		})
		if got != (tally{}) {
			t.Errorf("the stripe %d: %+v", stripe, got)
		}
	}
	if a, b := s.Refused(nil, 0), s.Refused(nil, 1); a != 0 || b != 0 {
		t.Errorf("refused: %d, %d", a, b)
	}
}

// A recorder that was closed stays so; another one of its stripe records what that one left off with.
func TestClosedRecorders(t *testing.T) {
	for _, kind := range kinds {
		s, to := recorder.New(), laid(t, kind, 1)
		x, r := s.Recorder(0), &row{}
		c := record{kind, 3, 2.5}
		must(t, x, to, c)
		r.keep(c)
		x.Close()
		for turn := range 4 {
			for range turn {
				if e := c.do(x, nil, to); e != api.ErrState {
					t.Errorf("kind %d: %v", kind, e)
				}
			}
			must(t, s.Recorder(0), to, c)
			r.keep(c)
			buffer := turned(t, s)
			if n := s.Refused(nil, buffer); n != uint64(turn) {
				t.Errorf("kind %d: %d refused, not %d", kind, n, turn)
			}
			wants(t, kind, drained(t, to, buffer), r.part(kind))
			r = &row{}
		}
	}
}

// A Turn tells the buffers by turns, in five steps of which the first one is its point.
func TestTurns(t *testing.T) {
	s := recorder.New()
	for i := range 100 {
		buffer, polls := -1, -1
		got := alone(func(g *gate.Gate) { buffer, polls = s.Turn(g) })
		if buffer != i%2 || polls != 0 || got != (tally{5, 0, 1}) {
			t.Errorf("Turn number %d: %d, %d polls, %+v", i, buffer, polls, got)
		}
	}
	for i := range 10 {
		if buffer := turned(t, s); buffer != i%2 {
			t.Errorf("without a gate, Turn number %d: %d", i, buffer)
		}
	}
}

// A Turn polls as long as a record is under way, each poll noted; so it does behind Turns of either number.
func TestPollsOfATurn(t *testing.T) {
	for turns := range 4 {
		for polls := range 10 {
			s, c := recorder.New(), laid(t, api.Counter, 1)
			for range turns {
				s.Turn(nil)
			}
			told := false
			turn := func(g *gate.Gate) {
				buffer, n := s.Turn(g)
				steps, noted, point := g.Tally()
				if buffer != turns%2 || n != polls || (tally{steps, noted, point}) != (tally{5 + polls, polls, 2}) {
					t.Errorf("Turn: %d, %d polls, %d steps, %d noted, the point %d; not %d polls", buffer, n, steps, noted, point, polls)
				}
				told = true
			}
			add := func(g *gate.Gate) { s.Recorder(0).Add(g, c, 5) }
			picks := append([]int{1, 0, 0, 0, 0}, make([]int, polls)...)
			picks = append(picks, 1, 1, 1, 0)
			gate.Run([]func(g *gate.Gate){turn, add}, picks, false)
			if !told {
				t.Errorf("%d polls: the Turn has not ended", polls)
			}
		}
	}
}

// What a record that is let go has done by each of its steps, and no more: it is in from its first step to its last one, though leaving is deferred.
func TestWhatARecordHasDoneByEachStep(t *testing.T) {
	total := func(n uint64) slab.Part { return slab.Part{Total: api.Int{Lo: n}} }
	value := func(n uint64) slab.Part {
		return slab.Part{Total: api.Int{Lo: n}, N: 1, Counts: []api.Count{{Index: 3, N: 1}}}
	}
	none := slab.Part{}
	for _, c := range []struct {
		record
		of      int // the slab's kind
		parts   []slab.Part
		refused []uint64
	}{
		{record{kind: api.Counter, n: 3}, api.Counter, []slab.Part{none, none, none, total(3), total(3)}, make([]uint64, 5)},
		{record{kind: api.Histogram, n: 3}, api.Histogram, []slab.Part{none, none, none, value(0), value(3), value(3)}, make([]uint64, 6)},
		{record{kind: api.Counter, n: -3}, api.Counter, make([]slab.Part, 5), []uint64{0, 0, 0, 1, 1}},
		{record{kind: api.Summary, x: 3}, api.Counter, make([]slab.Part, 5), []uint64{0, 0, 0, 1, 1}},
	} {
		for buffer := range 2 {
			for k, want := range c.parts {
				s, to := recorder.New(), laid(t, c.of, 1)
				if buffer == 1 {
					s.Turn(nil)
				}
				got, ended := tally{}, false
				upTo(k, func(g *gate.Gate) {
					defer func() { got.steps, got.polls, got.point = g.Tally() }()
					c.do(s.Recorder(0), g, to)
					ended = true
				})
				point := 0
				if k >= 2 {
					point = 2
				}
				if got != (tally{k, 0, point}) || ended != (k == len(c.parts)-1) {
					t.Errorf("%+v, %d steps: %+v, ended: %t", c.record, k, got, ended)
				}
				if n, other := s.Refused(nil, buffer), s.Refused(nil, 1-buffer); n != c.refused[k] || other != 0 {
					t.Errorf("%+v, %d steps: refused %d, %d", c.record, k, n, other)
				}
				wants(t, []any{c.record, k}, drained(t, to, buffer), want)
				wants(t, []any{c.record, k}, drained(t, to, 1-buffer), none)
				if in := isIn(s); in != (k > 0 && !ended) {
					t.Errorf("%+v, %d steps: in: %t", c.record, k, in)
				}
			}
		}
	}
}

// What a Turn that is let go has done: from its first step on records go into the other buffer, whichever step comes next.
func TestWhatATurnHasDoneByEachStep(t *testing.T) {
	for turns := range 2 {
		for k := range 6 {
			s, c := recorder.New(), laid(t, api.Counter, 1)
			for range turns {
				s.Turn(nil)
			}
			got, ended := tally{}, false
			upTo(k, func(g *gate.Gate) {
				defer func() { got.steps, got.polls, got.point = g.Tally() }()
				s.Turn(g)
				ended = true
			})
			if got != (tally{k, 0, min(k, 1)}) || ended != (k == 5) {
				t.Errorf("%d steps: %+v, ended: %t", k, got, ended)
			}
			must(t, s.Recorder(0), c, record{kind: api.Counter, n: 5})
			s.Recorder(0).Add(nil, c, -5)
			buffer := (turns + min(k, 1)) % 2
			wants(t, k, drained(t, c, buffer), slab.Part{Total: api.Int{Lo: 5}})
			if a, b := s.Refused(nil, buffer), s.Refused(nil, 1-buffer); a != 1 || b != 0 {
				t.Errorf("%d steps: refused %d, %d", k, a, b)
			}
			// Who turns behind that tells that buffer, as long as no flip is half done.
			if k == 0 || k == 1 || k == 5 {
				if now := turned(t, s); now != buffer {
					t.Errorf("%d steps: the buffer %d, not %d", k, now, buffer)
				}
			}
		}
	}
}

// The Load of A alone says which buffer a record goes into: a Turn's Store ahead of that counts, one behind it doesn't.
func TestWhichBufferARecordGoesInto(t *testing.T) {
	for _, c := range []record{{kind: api.Counter, n: 5}, {kind: api.Counter, n: -5}} {
		for k := range 5 {
			s, to := recorder.New(), laid(t, api.Counter, 1)
			turn := func(g *gate.Gate) { s.Turn(g) }
			add := func(g *gate.Gate) { c.do(s.Recorder(0), g, to) }
			picks := append(slices.Repeat([]int{1}, k), 0)
			gate.Run([]func(g *gate.Gate){turn, add}, picks, true)
			buffer := 0
			if k < 2 {
				buffer = 1
			}
			want, n := slab.Part{}, uint64(1)
			if c.may() {
				want.Total.Lo, n = 5, 0
			}
			wants(t, []any{c, k}, drained(t, to, buffer), want)
			wants(t, []any{c, k}, drained(t, to, 1-buffer), slab.Part{})
			if a, b := s.Refused(nil, buffer), s.Refused(nil, 1-buffer); a != n || b != 0 {
				t.Errorf("%+v, %d steps ahead: refused %d, %d", c, k, a, b)
			}
		}
	}
}

// What is of one Shared is nothing to another.
func TestSharedsAreApart(t *testing.T) {
	a, b, c := recorder.New(), recorder.New(), laid(t, api.Counter, 1)
	a.Turn(nil)
	a.Recorder(0).Add(nil, c, -1)
	b.Recorder(0).Add(nil, c, -1)
	upTo(1, func(g *gate.Gate) { a.Recorder(0).Add(g, c, 1) })
	if isIn(b) || !isIn(a) {
		t.Error("who is in one is in the other")
	}
	for i, want := range []uint64{0, 1} {
		if n, m := a.Refused(nil, i), b.Refused(nil, i); n != want || m != 1-want {
			t.Errorf("refused in the buffer %d: %d, %d", i, n, m)
		}
	}
}

// P14.1 and P14.2 of whole scripts are in script_test.go.

// P14.3: a record ends within 12 steps of its own.

// Whatever the others were about when they came to rest: the record goes on alone, and ends.
func TestNobodyWaitsToRecord(t *testing.T) {
	r := rand.New(rand.NewSource(141))
	most := 0
	for range 3000 {
		s := recorder.New()
		var to []*slab.Slab
		for _, kind := range kinds {
			to = append(to, laid(t, kind, 3))
		}
		turn := func(g *gate.Gate) {
			for range 9 {
				s.Turn(g)
			}
		}
		other := func(g *gate.Gate) {
			for range 9 {
				someRecord(r).do(s.Recorder(1), g, to[r.Intn(3)])
			}
		}
		steps := 0
		one := func(g *gate.Gate) {
			c, x := someRecord(r), s.Recorder(r.Intn(4))
			if r.Intn(4) == 0 {
				x.Close()
			}
			c.do(x, g, to[r.Intn(3)])
			steps, _, _ = g.Tally()
		}
		var picks []int
		for range r.Intn(60) {
			picks = append(picks, r.Intn(2))
		}
		picks = append(picks, slices.Repeat([]int{2}, 12)...)
		gate.Run([]func(g *gate.Gate){turn, other, one}, picks, false)
		if steps < 4 || steps > 12 {
			t.Fatalf("the record has done %d steps, or has not ended (0)", steps)
		}
		most = max(most, steps)
	}
	if most != 12 {
		t.Errorf("no record of 12 steps was tried: %d", most)
	}
}

// Without a gate

// join waits for goroutines, but not for ever: what is wrong may let them wait till the end of days.
func join(t *testing.T, wait *sync.WaitGroup) {
	t.Helper()
	ended := make(chan bool)
	go func() {
		wait.Wait()
		close(ended)
	}()
	select {
	case <-ended:
	case <-time.After(time.Minute):
		t.Fatal("a call does not end")
	}
}

// sums is what was recorded, kind by kind, and how many were refused.
type sums struct {
	parts   [3]slab.Part
	refused uint64
}

func (s *sums) add(o sums) {
	for i := range s.parts {
		s.parts[i] = slab.Merge(s.parts[i], o.parts[i])
	}
	s.refused += o.refused
}

// records does some records in a stripe, refused ones among them, and tells what must come of them. Floats are small whole numbers: so their sums hang on no order.
func records(s *recorder.Shared, to []*slab.Slab, stripe, times int) (out sums) {
	r := rand.New(rand.NewSource(int64(stripe)))
	x := s.Recorder(stripe)
	rows := [3]row{}
	for range times {
		c := record{kind: kinds[r.Intn(3)], n: int64(r.Intn(9) - 1)}
		c.x = float64(c.n)
		if r.Intn(20) == 0 {
			c.x = nan
		}
		at := kinds[r.Intn(3)] - 1
		if r.Intn(3) > 0 {
			at = c.kind - 1
		}
		want := refusal(false, c, at+1, true)
		if e := c.do(x, nil, to[at]); e != want {
			panic(fmt.Sprint("a record is answered otherwise: ", c, e, want))
		}
		if want == api.OK {
			rows[at].keep(c)
		} else {
			out.refused++
		}
	}
	for i, kind := range kinds {
		out.parts[i] = rows[i].part(kind)
	}
	return out
}

// turnAll turns, and tells what lies in the buffer that was active.
func turnAll(t *testing.T, s *recorder.Shared, to []*slab.Slab) (out sums) {
	t.Helper()
	buffer, polls := s.Turn(nil)
	if polls < 0 {
		t.Errorf("%d polls", polls)
	}
	for i := range to {
		out.parts[i] = drained(t, to[i], buffer)
	}
	out.refused = s.Refused(nil, buffer)
	return out
}

// However many goroutines record, while one turns: nothing is lost, and nothing stands twice.
func TestWithoutAGate(t *testing.T) {
	for _, c := range [][3]int{{1, 3000, 200}, {2, 3000, 200}, {8, 1000, 200}, {16, 500, 100}} {
		goroutines, times, turns := c[0], c[1], c[2]
		s := recorder.New()
		var to []*slab.Slab
		for _, kind := range kinds {
			to = append(to, laid(t, kind, goroutines))
		}
		var wait, all sync.WaitGroup
		of := make([]sums, goroutines)
		for stripe := range goroutines {
			wait.Go(func() { of[stripe] = records(s, to, stripe, times) })
		}
		var got, want sums
		all.Go(func() {
			for range turns {
				got.add(turnAll(t, s, to))
			}
			wait.Wait()
			got.add(turnAll(t, s, to))
			got.add(turnAll(t, s, to))
		})
		join(t, &all)
		for _, o := range of {
			want.add(o)
		}
		wants(t, c, got, want)
		if want.refused == 0 || want.parts[2].N == 0 {
			t.Errorf("%v: nothing was tried: %+v", c, want)
		}
	}
}

// A Turn without a gate that waits for a record of a thread with one ends when that leaves.
func TestATurnWithoutAGateWaits(t *testing.T) {
	s, c := recorder.New(), laid(t, api.Counter, 1)
	var all sync.WaitGroup
	entered, left := make(chan bool), make(chan bool)
	all.Go(func() {
		<-entered
		s.Turn(nil)
		select {
		case <-left:
		default:
			t.Error("the Turn has ended, though the record is under way")
		}
		wants(t, "Drain", drained(t, c, 0), slab.Part{Total: api.Int{Lo: 5}})
	})
	add := func(g *gate.Gate) { s.Recorder(0).Add(g, c, 5) }
	other := func(g *gate.Gate) {
		g.Step()
		close(entered)
		time.Sleep(5 * time.Millisecond)
		g.Step()
		close(left)
	}
	gate.Run([]func(g *gate.Gate){add, other}, []int{0, 0, 1, 0, 1, 0}, false)
	join(t, &all)
}
