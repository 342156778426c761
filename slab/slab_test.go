package slab_test

import (
	"cmp"
	"math"
	"math/big"
	"math/rand"
	"reflect"
	"slices"
	"sync"
	"testing"

	"gnomon/api"
	"gnomon/bucket"
	"gnomon/gate"
	"gnomon/pair"
	"gnomon/slab"
)

const (
	greatest = math.MaxInt64
	least    = math.MinInt64
	most     = math.MaxUint64
)

var (
	minusZero = math.Copysign(0, -1)
	inf       = math.Inf(1)
	nan       = math.NaN()
)

// kinds are all there are.
var kinds = []int{api.Counter, api.Histogram, api.Summary}

// noKinds, noStripes, noPrecisions are numbers that are none, those beside the least and the greatest one among them.
var (
	noKinds      = []int{0, -1, 4, 5, 1 << 8, 1<<8 + 1, 1<<32 + 1, 1<<32 + 2, math.MaxInt, math.MinInt}
	noStripes    = []int{0, -1, 17, 18, 1 << 8, 1<<8 + 1, 1<<32 + 1, 1 << 62, math.MaxInt, math.MinInt}
	noPrecisions = []int{0, -1, 15, 16, 63, 64, 65, 1<<8 + 1, 1<<32 + 1, math.MaxInt, math.MinInt}
)

// noBuffers are numbers that are none.
var noBuffers = []int{-1, 2, 3, 1 << 8, 1<<8 + 1, 1 << 32, 1<<32 + 1, math.MaxInt, math.MinInt, math.MinInt + 1}

// noWholes and noFloats may not be recorded; the wholes and floats, edges among them, may.
var (
	noWholes = []int64{-1, -2, -1 << 31, -1 << 32, least, least + 1}
	noFloats = []float64{nan, -nan, inf, -inf, 0x1p961, -0x1p961, math.Nextafter(0x1p960, inf), math.Nextafter(-0x1p960, -inf), math.MaxFloat64, -math.MaxFloat64, math.Float64frombits(0xfff0000000000001)}
	wholes   = []int64{0, 1, 2, 3, 7, 8, 9, 255, 256, 1<<31 - 1, 1 << 31, 1<<32 - 1, 1 << 32, 1<<53 + 1, 1<<62 - 1, 1 << 62, greatest - 1, greatest}
	floats   = []float64{0, minusZero, 1, -1, 2.5, 0.1, 0.2, -0.3, 1e16, -1e16, 0x1p53, 3, 0x1p960, -0x1p960, math.SmallestNonzeroFloat64, -math.SmallestNonzeroFloat64}
)

// laid makes a slab.
func laid(t *testing.T, kind, stripes, p int) *slab.Slab {
	t.Helper()
	s, e := slab.New(kind, stripes, p)
	if e != api.OK || s == nil {
		t.Fatalf("New(%d, %d, %d): %v", kind, stripes, p, e)
	}
	return s
}

// record is a call by a kind: which of n and x counts, the kind tells.
type record struct {
	kind, buffer, stripe int
	n                    int64
	x                    float64
}

func (c record) do(s *slab.Slab, g *gate.Gate) api.Errno {
	switch c.kind {
	case api.Counter:
		return s.Add(g, c.buffer, c.stripe, c.n)
	case api.Histogram:
		return s.Observe(g, c.buffer, c.stripe, c.n)
	}
	return s.Sample(g, c.buffer, c.stripe, c.x)
}

// must does records that may be.
func must(t *testing.T, s *slab.Slab, l ...record) {
	t.Helper()
	for _, c := range l {
		if e := c.do(s, nil); e != api.OK {
			t.Fatalf("%+v: %v", c, e)
		}
	}
}

// drained tells a Drain that must be.
func drained(t *testing.T, s *slab.Slab, buffer int) slab.Part {
	t.Helper()
	p, e := s.Drain(nil, buffer)
	if e != api.OK {
		t.Fatalf("Drain(%d): %v", buffer, e)
	}
	return p
}

// steps tells how many steps something does.
func steps(do func(g *gate.Gate)) int { return gate.Run([]func(g *gate.Gate){do}, nil, true) }

// upTo lets something do its first n steps, and no more.
func upTo(n int, do func(g *gate.Gate)) {
	gate.Run([]func(g *gate.Gate){do}, make([]int, n), false)
}

// sameFloat tells whether two have the same bits, or are NaNs.
func sameFloat(a, b float64) bool {
	return math.Float64bits(a) == math.Float64bits(b) || a != a && b != b
}

// samePart tells whether two are the same in all.
func samePart(a, b slab.Part) bool {
	return a.Total == b.Total && slices.Equal(a.Counts, b.Counts) && a.N == b.N &&
		sameFloat(real(a.Pair), real(b.Pair)) && sameFloat(imag(a.Pair), imag(b.Pair)) && sameFloat(a.Min, b.Min) && sameFloat(a.Max, b.Max)
}

// wants holds a part against another one.
func wants(t *testing.T, what any, got, want slab.Part) {
	t.Helper()
	if !samePart(got, want) {
		t.Fatalf("%+v: %+v, not %+v", what, got, want)
	}
}

// whole tells a number of 128 bits.
func whole(a api.Int) *big.Int {
	n := new(big.Int).Lsh(big.NewInt(a.Hi), 64)
	return n.Add(n, new(big.Int).SetUint64(a.Lo))
}

// brought tells a number brought round into 128 bits.
func brought(n *big.Int) api.Int {
	lo := new(big.Int).And(n, new(big.Int).SetUint64(most))
	hi := new(big.Int).Rsh(n, 64)
	hi.And(hi, new(big.Int).SetUint64(most))
	return api.Int{Hi: int64(hi.Uint64()), Lo: lo.Uint64()}
}

// ahead tells whether a stands ahead of b in the order of floats, NaN first.
func ahead(a, b float64) bool {
	switch {
	case a != a || b != b:
		return a != a && b == b
	case a == 0 && b == 0:
		return math.Signbit(a) && !math.Signbit(b)
	}
	return a < b
}

// countsOf tells counts by their buckets, those of 0 left out.
func countsOf(n map[int]uint64) []api.Count {
	var out []api.Count
	for i, n := range n {
		if n != 0 {
			out = append(out, api.Count{Index: i, N: n})
		}
	}
	slices.SortFunc(out, func(a, b api.Count) int { return cmp.Compare(a.Index, b.Index) })
	return out
}

// modelMerge is Merge as the chapter says it.
func modelMerge(a, b slab.Part) slab.Part {
	n := map[int]uint64{}
	for _, c := range slices.Concat(a.Counts, b.Counts) {
		n[c.Index] += c.N
	}
	out := slab.Part{Total: brought(new(big.Int).Add(whole(a.Total), whole(b.Total))), Counts: countsOf(n), N: a.N + b.N, Pair: pair.Merge(a.Pair, b.Pair), Min: a.Min, Max: a.Max}
	if a.N == 0 || b.N != 0 && ahead(b.Min, a.Min) {
		out.Min = b.Min
	}
	if a.N == 0 || b.N != 0 && ahead(a.Max, b.Max) {
		out.Max = b.Max
	}
	return out
}

// row is what was recorded in a buffer and a stripe.
type row struct {
	n []int64
	x []float64
}

// sum tells what the whole numbers came to.
func (w row) sum() *big.Int {
	sum := new(big.Int)
	for _, n := range w.n {
		sum.Add(sum, big.NewInt(n))
	}
	return sum
}

// part tells what came of it.
func (w row) part(kind, p int) slab.Part {
	if kind == api.Summary {
		out := slab.Part{N: uint64(len(w.x)), Pair: pair.Of(w.x)}
		for i, x := range w.x {
			if i == 0 || ahead(x, out.Min) {
				out.Min = x
			}
			if i == 0 || ahead(out.Max, x) {
				out.Max = x
			}
		}
		return out
	}
	out := slab.Part{Total: brought(w.sum())}
	if kind == api.Histogram {
		n := map[int]uint64{}
		for _, v := range w.n {
			i, _ := bucket.Index(p, v)
			n[i]++
		}
		out.Counts, out.N = countsOf(n), uint64(len(w.n))
	}
	return out
}

// model is a slab as the chapter says it: it keeps what was recorded.
type model struct {
	kind, p int
	rows    [2][]row
}

func newModel(kind, stripes, p int) *model {
	return &model{kind: kind, p: p, rows: [2][]row{make([]row, stripes), make([]row, stripes)}}
}

// record keeps a record, and tells how many steps it does.
func (m *model) record(c record) int {
	w := &m.rows[c.buffer][c.stripe]
	if m.kind == api.Summary {
		n := 7
		if !slices.ContainsFunc(w.x, func(x float64) bool { return !ahead(c.x, x) }) {
			n++
		}
		if !slices.ContainsFunc(w.x, func(x float64) bool { return !ahead(x, c.x) }) {
			n++
		}
		w.x = append(w.x, c.x)
		return n
	}
	n := 1
	if m.kind == api.Histogram {
		n = 2
	}
	high := brought(w.sum()).Hi
	w.n = append(w.n, c.n)
	if brought(w.sum()).Hi != high {
		n++
	}
	return n
}

// drain tells what a Drain does.
func (m *model) drain(buffer int) slab.Part {
	var out slab.Part
	for i, w := range m.rows[buffer] {
		out = modelMerge(out, w.part(m.kind, m.p))
		m.rows[buffer][i] = row{}
	}
	return out
}

// width tells how many cells a stripe of a buffer has.
func width(kind, p int) int {
	switch kind {
	case api.Counter:
		return 2
	case api.Histogram:
		return 2 + (64-p)*(1<<p)
	}
	return 5
}

// someWhole tells one that may be recorded; great ones come often, so that sums wrap.
func someWhole(r *rand.Rand) int64 {
	switch r.Intn(3) {
	case 0:
		return wholes[r.Intn(len(wholes))]
	case 1:
		return r.Int63()
	}
	return r.Int63() >> r.Intn(63)
}

// someFloat tells one that may be recorded.
func someFloat(r *rand.Rand) float64 {
	if r.Intn(2) == 0 {
		return floats[r.Intn(len(floats))]
	}
	return r.NormFloat64() * math.Ldexp(1, r.Intn(200)-100)
}

// someRecord tells one that may be.
func someRecord(r *rand.Rand, kind, stripes int) record {
	return record{kind: kind, buffer: r.Intn(2), stripe: r.Intn(stripes), n: someWhole(r), x: someFloat(r)}
}

// anyFloat tells any, such as stand in parts that are made by hand.
func anyFloat(r *rand.Rand) float64 {
	switch r.Intn(4) {
	case 0:
		return noFloats[r.Intn(len(noFloats))]
	case 1:
		return math.Float64frombits(r.Uint64())
	}
	return floats[r.Intn(len(floats))]
}

// anyNumber tells any, with edges among them.
func anyNumber(r *rand.Rand) uint64 {
	edges := []uint64{0, 0, 1, 2, greatest, 1 << 63, most - 1, most}
	if r.Intn(2) == 0 {
		return edges[r.Intn(len(edges))]
	}
	return r.Uint64() >> r.Intn(64)
}

// anyPart tells one as nobody would make it: counts in any order, of any Index, the same ones again.
func anyPart(r *rand.Rand) slab.Part {
	p := slab.Part{
		Total: api.Int{Hi: int64(anyNumber(r)), Lo: anyNumber(r)}, N: anyNumber(r),
		Pair: complex(anyFloat(r), anyFloat(r)), Min: anyFloat(r), Max: anyFloat(r),
	}
	for range r.Intn(6) {
		p.Counts = append(p.Counts, api.Count{Index: r.Intn(5) - 1, N: anyNumber(r)})
	}
	return p
}

// P11.1: all calls answer as said, at all arguments, and do just the steps that are said.

func TestCellsExamples(t *testing.T) {
	for _, c := range []struct {
		kind, stripes, p, n int
		e                   api.Errno
	}{
		{api.Counter, 2, 1, 8, api.OK},
		{api.Summary, 1, 3, 10, api.OK},
		{api.Histogram, 1, 1, 256, api.OK},
		{api.Histogram, 1, 14, 1638404, api.ErrRoom},
		{4, 1, 1, 0, api.ErrKind},
		{api.Counter, 17, 1, 0, api.ErrArg},
		{api.Counter, 1, 0, 0, api.ErrArg},
	} {
		s, e := slab.New(c.kind, c.stripes, c.p)
		if e != c.e || (s != nil) != (e == api.OK) {
			t.Errorf("New(%d, %d, %d): %v, %v", c.kind, c.stripes, c.p, s, e)
		}
		if n := slab.Cells(c.kind, c.stripes, c.p); n != c.n {
			t.Errorf("Cells(%d, %d, %d): %d, not %d", c.kind, c.stripes, c.p, n, c.n)
		}
	}
}

// Every slab that may be is made: those of the most cells that there is room for, and those of a few more.
func TestNewAndCells(t *testing.T) {
	room, none := 0, math.MaxInt
	for _, kind := range kinds {
		for stripes := 1; stripes <= 16; stripes++ {
			for p := 1; p <= 14; p++ {
				want := 2 * stripes * width(kind, p)
				if n := slab.Cells(kind, stripes, p); n != want {
					t.Errorf("Cells(%d, %d, %d): %d, not %d", kind, stripes, p, n, want)
				}
				s, e := slab.New(kind, stripes, p)
				if want > 1048576 {
					none = min(none, want)
					if s != nil || e != api.ErrRoom {
						t.Errorf("New(%d, %d, %d): %v", kind, stripes, p, e)
					}
					continue
				}
				room = max(room, want)
				if s == nil || e != api.OK || s.Kind() != kind {
					t.Errorf("New(%d, %d, %d): %v", kind, stripes, p, e)
				}
			}
		}
	}
	if room < 990000 || none > 1100000 {
		t.Errorf("no slabs near the limit were tried: %d, %d", room, none)
	}
}

// Of what may not be the kind is told first, then stripes and precision, of every kind; then the room.
func TestNewRefuses(t *testing.T) {
	refused := func(kind, stripes, p int, want api.Errno) {
		t.Helper()
		if s, e := slab.New(kind, stripes, p); s != nil || e != want {
			t.Errorf("New(%d, %d, %d): %v, not %v", kind, stripes, p, e, want)
		}
		if n := slab.Cells(kind, stripes, p); n != 0 {
			t.Errorf("Cells(%d, %d, %d): %d", kind, stripes, p, n)
		}
	}
	for _, kind := range noKinds {
		for _, stripes := range append(noStripes, 1, 16) {
			for _, p := range append(noPrecisions, 1, 14) {
				refused(kind, stripes, p, api.ErrKind)
			}
		}
	}
	for _, kind := range kinds {
		for _, stripes := range noStripes {
			for _, p := range append(noPrecisions, 1, 14) {
				refused(kind, stripes, p, api.ErrArg)
			}
		}
		for _, p := range noPrecisions {
			for stripes := 1; stripes <= 16; stripes++ {
				refused(kind, stripes, p, api.ErrArg)
			}
		}
	}
}

func TestCounterExample(t *testing.T) {
	s := laid(t, api.Counter, 2, 1)
	for _, c := range []struct {
		stripe int
		n      int64
		steps  int
	}{{0, 5, 1}, {1, greatest, 1}, {1, greatest, 1}, {1, 5, 2}} {
		if n := steps(func(g *gate.Gate) { s.Add(g, 0, c.stripe, c.n) }); n != c.steps {
			t.Errorf("%v: %d steps", c, n)
		}
	}
	var p slab.Part
	if n := steps(func(g *gate.Gate) { p, _ = s.Drain(g, 0) }); n != 4 {
		t.Errorf("Drain: %d steps", n)
	}
	wants(t, "Drain", p, slab.Part{Total: api.Int{Hi: 1, Lo: 8}})
	wants(t, "Drain again", drained(t, s, 0), slab.Part{})
	if e := s.Add(nil, 0, 0, -1); e != api.ErrRange {
		t.Errorf("Add(0, 0, -1): %v", e)
	}
	if a, b := s.Add(nil, 2, 0, 1), s.Add(nil, 0, 2, 1); a != api.ErrArg || b != api.ErrArg {
		t.Errorf("Add(2, 0, 1), Add(0, 2, 1): %v, %v", a, b)
	}
	if e := s.Observe(nil, 0, 0, 1); e != api.ErrKind {
		t.Errorf("Observe: %v", e)
	}
}

func TestSummaryExample(t *testing.T) {
	s := laid(t, api.Summary, 1, 1)
	for i, x := range []float64{2.5, minusZero, 0} {
		if n := steps(func(g *gate.Gate) { s.Sample(g, 0, 0, x) }); n != 9-i {
			t.Errorf("%v: %d steps", x, n)
		}
	}
	wants(t, "Drain", drained(t, s, 0), slab.Part{N: 3, Pair: 2.5, Min: minusZero, Max: 2.5})
}

func TestHistogramExample(t *testing.T) {
	s := laid(t, api.Histogram, 1, 2)
	must(t, s, record{kind: api.Histogram, n: 100}, record{kind: api.Histogram, n: 96}, record{kind: api.Histogram, n: 3})
	wants(t, "Drain", drained(t, s, 0), slab.Part{Total: api.Int{Lo: 199}, Counts: []api.Count{{Index: 3, N: 1}, {Index: 22, N: 2}}, N: 3})
}

// refusals tells whatever may be wrong with a record of a slab of that kind and so many stripes, with the error that comes first.
func refusals(kind, stripes int) map[record]api.Errno {
	out := map[record]api.Errno{}
	for _, of := range kinds {
		for _, buffer := range append(noBuffers, 0, 1) {
			for _, stripe := range append(noBuffers[2:], -1, stripes, stripes+1, 0, stripes-1) {
				for i := range 12 {
					c := record{kind: of, buffer: buffer, stripe: stripe, n: 5, x: 5}
					if i > 0 {
						c.n, c.x = noWholes[i%len(noWholes)], noFloats[i%len(noFloats)]
					}
					switch {
					case of != kind:
						out[c] = api.ErrKind
					case buffer < 0 || buffer > 1 || stripe < 0 || stripe >= stripes:
						out[c] = api.ErrArg
					case i > 0:
						out[c] = api.ErrRange
					}
				}
			}
		}
	}
	return out
}

// What is refused is told without a step, the first error of several, and changes nothing.
func TestRecordsAreRefused(t *testing.T) {
	for _, kind := range kinds {
		for _, stripes := range []int{1, 2, 16} {
			s := laid(t, kind, stripes, 1)
			m := newModel(kind, stripes, 1)
			for buffer := range 2 {
				for stripe := range stripes {
					c := record{kind, buffer, stripe, 7, 2.5}
					must(t, s, c)
					m.record(c)
				}
			}
			seen := map[api.Errno]int{}
			for c, want := range refusals(kind, stripes) {
				e := api.OK
				n := steps(func(g *gate.Gate) { e = c.do(s, g) })
				if alone := c.do(s, nil); n != 0 || e != want || alone != want {
					t.Errorf("kind %d, %d stripes, %+v: %v and %v, not %v; %d steps", kind, stripes, c, e, alone, want, n)
				}
				seen[want]++
			}
			if len(seen) != 3 {
				t.Errorf("kind %d: refused by %v alone", kind, seen)
			}
			for buffer := range 2 {
				wants(t, "what was there", drained(t, s, buffer), m.drain(buffer))
			}
		}
	}
}

func TestDrainRefuses(t *testing.T) {
	for _, kind := range kinds {
		s := laid(t, kind, 2, 1)
		must(t, s, record{kind, 0, 1, 7, 2.5}, record{kind, 1, 0, 7, 2.5})
		for _, buffer := range noBuffers {
			var p slab.Part
			e := api.OK
			if n := steps(func(g *gate.Gate) { p, e = s.Drain(g, buffer) }); n != 0 || e != api.ErrArg {
				t.Errorf("Drain(%d): %v, %d steps", buffer, e, n)
			}
			wants(t, buffer, p, slab.Part{})
		}
		for buffer := range 2 {
			if p := drained(t, s, buffer); p.N+p.Total.Lo == 0 {
				t.Errorf("buffer %d: what was there is gone", buffer)
			}
		}
	}
}

func TestEveryValueThatMayBe(t *testing.T) {
	for _, n := range wholes {
		for _, kind := range kinds[:2] {
			s := laid(t, kind, 1, 14-6*(kind-1))
			must(t, s, record{kind: kind, n: n})
			if p := drained(t, s, 0); p.Total != (api.Int{Lo: uint64(n)}) {
				t.Errorf("kind %d, %d: %+v", kind, n, p)
			}
		}
	}
	for _, x := range floats {
		s := laid(t, api.Summary, 1, 1)
		must(t, s, record{kind: api.Summary, x: x})
		// The pair of -0 is the empty one; its ends are it.
		wants(t, x, drained(t, s, 0), slab.Part{N: 1, Pair: complex(x+0, 0), Min: x, Max: x})
	}
}

// Each value falls into its bucket, whichever precision there is.
func TestBuckets(t *testing.T) {
	for p := 1; p <= 13; p++ {
		s := laid(t, api.Histogram, 1, p)
		for _, i := range []int{0, 1, 1<<p - 1, 1 << p, 2 << p, bucket.Length(p) / 2, bucket.Length(p) - 1} {
			low, _ := bucket.Low(p, i)
			high, _ := bucket.High(p, i)
			must(t, s, record{kind: api.Histogram, n: low}, record{kind: api.Histogram, n: high})
			total := brought(new(big.Int).Add(big.NewInt(low), big.NewInt(high)))
			wants(t, []int{p, i}, drained(t, s, 0), slab.Part{Total: total, Counts: []api.Count{{Index: i, N: 2}}, N: 2})
		}
	}
}

// A sum wraps from the lower cell into the higher one when it comes to 2^64, and neither one short of that nor at 2^63.
func TestWhenASumWraps(t *testing.T) {
	for _, kind := range kinds[:2] {
		few := kind // a counter does 1 step, a histogram 2
		s := laid(t, kind, 1, 1)
		for range 5 {
			for _, c := range []struct {
				n    int64
				wrap int
			}{{greatest, 0}, {greatest, 0}, {1, 0}, {0, 0}, {1, 1}, {0, 0}, {greatest, 0}, {1, 0}, {greatest, 0}, {greatest, 1}, {2, 0}, {0, 0}} {
				if n := steps(func(g *gate.Gate) { record{kind: kind, n: c.n}.do(s, g) }); n != few+c.wrap {
					t.Errorf("kind %d, %+v: %d steps", kind, c, n)
				}
			}
			// 5 greatest ones are 5 times 2^63, less 5; 5 more.
			if p := drained(t, s, 0); p.Total != (api.Int{Hi: 2, Lo: 1 << 63}) {
				t.Errorf("kind %d: %+v", kind, p.Total)
			}
		}
	}
}

// A float is stored as the least or the greatest one, if it stands ahead of, or behind, all that were there: not if it is one of them.
func TestStepsOfSamples(t *testing.T) {
	s := laid(t, api.Summary, 2, 1)
	for round := range 2 {
		for _, c := range []struct {
			x float64
			n int
		}{{0, 9}, {0, 7}, {minusZero, 8}, {minusZero, 7}, {0, 7}, {1, 8}, {0.5, 7}, {1, 7}, {-1, 8}, {0x1p960, 8}, {-0x1p960, 8}, {0x1p960, 7}, {-0x1p960, 7}, {0, 7}} {
			if n := steps(func(g *gate.Gate) { s.Sample(g, 1, 1, c.x) }); n != c.n {
				t.Errorf("round %d, %v: %d steps, not %d", round, c.x, n, c.n)
			}
		}
		if n := steps(func(g *gate.Gate) { s.Sample(g, 1, 0, 0) }); n != 9 {
			t.Errorf("round %d, the other stripe: %d steps", round, n)
		}
		drained(t, s, 1)
	}
	t.Run("minus zero first", func(t *testing.T) {
		for i, x := range []float64{minusZero, 0, minusZero} {
			if n := steps(func(g *gate.Gate) { s.Sample(g, 0, 0, x) }); n != []int{9, 8, 7}[i] {
				t.Errorf("%v: %d steps", x, n)
			}
		}
	})
}

// A Drain does a step for each cell of its buffer, whatever is in them.
func TestStepsOfDrains(t *testing.T) {
	for _, kind := range kinds {
		for _, stripes := range []int{1, 2, 5, 16} {
			for _, p := range []int{1, 2, 4} {
				s := laid(t, kind, stripes, p)
				for range 3 {
					for buffer := range 2 {
						if n := steps(func(g *gate.Gate) { s.Drain(g, buffer) }); n != stripes*width(kind, p) {
							t.Errorf("kind %d, %d stripes, precision %d: %d steps", kind, stripes, p, n)
						}
					}
					must(t, s, record{kind, 0, stripes - 1, 9, 9}, record{kind, 1, 0, 9, 9})
				}
			}
		}
	}
}

// What a record has done by each of its steps.
func TestOrderOfARecordsSteps(t *testing.T) {
	of := func(lo uint64, hi int64, n uint64) slab.Part {
		p := slab.Part{Total: api.Int{Hi: hi, Lo: lo}, N: n}
		if n > 0 {
			p.Counts = []api.Count{{Index: 2, N: n}}
		}
		return p
	}
	ends := func(n uint64, p pair.Pair, least, greatest float64) slab.Part {
		return slab.Part{N: n, Pair: p, Min: least, Max: greatest}
	}
	pairs := []pair.Pair{0x1p53, complex(0x1p53+4, 0), complex(0x1p53+4, -1), complex(0x1p54+4, 0)}
	for i, c := range []struct {
		ahead []record
		then  record
		want  []slab.Part // behind no step, behind the first one ..
	}{
		{[]record{{kind: 1, n: 7}}, record{kind: 1, n: 5}, []slab.Part{of(7, 0, 0), of(12, 0, 0)}},
		{[]record{{kind: 1, n: greatest}, {kind: 1, n: greatest}}, record{kind: 1, n: 5}, []slab.Part{of(most-1, 0, 0), of(3, 0, 0), of(3, 1, 0)}},
		{[]record{{kind: 2, n: 2}}, record{kind: 2, n: 2}, []slab.Part{of(2, 0, 1), of(2, 0, 2), of(4, 0, 2)}},
		{nil, record{kind: 3, x: 2.5}, []slab.Part{{}, ends(1, 0, inf, -inf), ends(1, 0, inf, -inf), ends(1, 0, inf, -inf), ends(1, 2.5, inf, -inf), ends(1, 2.5, inf, -inf), ends(1, 2.5, inf, -inf), ends(1, 2.5, 2.5, -inf), ends(1, 2.5, 2.5, -inf), ends(1, 2.5, 2.5, 2.5)}},
		{[]record{{kind: 3, x: 0x1p53}}, record{kind: 3, x: 3}, []slab.Part{ends(1, pairs[0], 0x1p53, 0x1p53), ends(2, pairs[0], 0x1p53, 0x1p53), ends(2, pairs[0], 0x1p53, 0x1p53), ends(2, pairs[0], 0x1p53, 0x1p53), ends(2, pairs[1], 0x1p53, 0x1p53), ends(2, pairs[2], 0x1p53, 0x1p53), ends(2, pairs[2], 0x1p53, 0x1p53), ends(2, pairs[2], 3, 0x1p53), ends(2, pairs[2], 3, 0x1p53)}},
		{[]record{{kind: 3, x: 0x1p53}}, record{kind: 3, x: 0x1p53 + 4}, []slab.Part{ends(1, pairs[0], 0x1p53, 0x1p53), ends(2, pairs[0], 0x1p53, 0x1p53), ends(2, pairs[0], 0x1p53, 0x1p53), ends(2, pairs[0], 0x1p53, 0x1p53), ends(2, pairs[3], 0x1p53, 0x1p53), ends(2, pairs[3], 0x1p53, 0x1p53), ends(2, pairs[3], 0x1p53, 0x1p53), ends(2, pairs[3], 0x1p53, 0x1p53), ends(2, pairs[3], 0x1p53, 0x1p53+4)}},
	} {
		for k, want := range c.want {
			s := laid(t, c.then.kind, 1, 1)
			must(t, s, c.ahead...)
			upTo(k, func(g *gate.Gate) { c.then.do(s, g) })
			wants(t, []int{i, k}, drained(t, s, 0), want)
		}
	}
}

// Three steps of a histogram whose sum wraps: bucket, low, high.
func TestOrderOfStepsWhereASumWraps(t *testing.T) {
	at := func(v int64) int {
		i, _ := bucket.Index(1, v)
		return i
	}
	for k, want := range []slab.Part{
		{Total: api.Int{Lo: most - 1}, Counts: []api.Count{{Index: at(greatest), N: 2}}, N: 2},
		{Total: api.Int{Lo: most - 1}, Counts: []api.Count{{Index: at(5), N: 1}, {Index: at(greatest), N: 2}}, N: 3},
		{Total: api.Int{Lo: 3}, Counts: []api.Count{{Index: at(5), N: 1}, {Index: at(greatest), N: 2}}, N: 3},
		{Total: api.Int{Hi: 1, Lo: 3}, Counts: []api.Count{{Index: at(5), N: 1}, {Index: at(greatest), N: 2}}, N: 3},
	} {
		s := laid(t, api.Histogram, 1, 1)
		must(t, s, record{kind: api.Histogram, n: greatest}, record{kind: api.Histogram, n: greatest})
		upTo(k, func(g *gate.Gate) { s.Observe(g, 0, 0, 5) })
		wants(t, k, drained(t, s, 0), want)
	}
}

// Sum and rest are loaded in this order, each at its own step. (A Drain between a record's steps is nobody's business; here it tells them apart.)
func TestOrderOfASamplesLoads(t *testing.T) {
	for k, want := range []slab.Part{
		1: {N: 1, Pair: -7, Min: -7, Max: 0},
		2: {N: 1, Pair: 0x1p53 - 3, Min: -7, Max: 0},
		3: {N: 1, Pair: complex(0x1p53-3, -1), Min: -7, Max: 0},
	} {
		if k == 0 {
			continue
		}
		s := laid(t, api.Summary, 1, 1)
		must(t, s, record{kind: api.Summary, x: 0x1p53}, record{kind: api.Summary, x: 3})
		gate.Run([]func(g *gate.Gate){func(g *gate.Gate) { s.Sample(g, 0, 0, -7) }, func(g *gate.Gate) {
			g.Step()
			s.Drain(nil, 0)
		}}, append(make([]int, k), 1), true)
		// Behind a Drain nothing is told of a stripe without a value: this one lets the cells be seen.
		must(t, s, record{kind: api.Summary, x: 0})
		wants(t, k, drained(t, s, 0), want)
	}
}

// wholeCells tells what the cells of a buffer hold behind the records of fullWholes, in the order of a Drain.
func wholeCells(kind, stripes, p int) [][]uint64 {
	var out [][]uint64
	for stripe := range stripes {
		row := make([]uint64, width(kind, p))
		// 3 times 2^63 - 1, then stripe + 2: less than 2 times 2^64.
		row[0], row[1] = 1<<63+uint64(stripe)-1, 1
		if kind == api.Histogram {
			i, _ := bucket.Index(p, int64(stripe)+2)
			row[2+i], row[len(row)-1] = 1, 3
		}
		out = append(out, row)
	}
	return out
}

func fullWholes(t *testing.T, s *slab.Slab, kind, stripes int) {
	t.Helper()
	for stripe := range stripes {
		for _, n := range []int64{greatest, greatest, greatest, int64(stripe) + 2} {
			must(t, s, record{kind: kind, stripe: stripe, n: n})
		}
	}
}

// partOfCells tells what a Drain tells of cells.
func partOfCells(kind int, rows [][]uint64) slab.Part {
	var out slab.Part
	for _, row := range rows {
		p := slab.Part{Total: api.Int{Hi: int64(row[1]), Lo: row[0]}}
		for i, n := range row[2:] {
			if n != 0 {
				p.Counts = append(p.Counts, api.Count{Index: i, N: n})
				p.N += n
			}
		}
		out = modelMerge(out, p)
	}
	return out
}

// A Drain goes from stripe to stripe, and in each from cell to cell: what its first steps have emptied is gone, the rest is there.
func TestOrderOfADrainsSteps(t *testing.T) {
	for _, c := range [][3]int{{api.Counter, 1, 1}, {api.Counter, 3, 1}, {api.Histogram, 2, 1}, {api.Histogram, 1, 2}} {
		kind, stripes, p := c[0], c[1], c[2]
		wide := width(kind, p)
		for k := range stripes*wide + 1 {
			s := laid(t, kind, stripes, p)
			fullWholes(t, s, kind, stripes)
			upTo(k, func(g *gate.Gate) { s.Drain(g, 0) })
			rows := wholeCells(kind, stripes, p)
			for i := range k {
				rows[i/wide][i%wide] = 0
			}
			wants(t, []any{c, k}, drained(t, s, 0), partOfCells(kind, rows))
		}
	}
}

// Of a summary, too, whose cells are seen by one more value.
func TestOrderOfASummarysDrain(t *testing.T) {
	for stripe := range 3 {
		for k := range 16 {
			s := laid(t, api.Summary, 3, 1)
			must(t, s, record{kind: api.Summary, stripe: stripe, x: 0x1p53}, record{kind: api.Summary, stripe: stripe, x: 3})
			upTo(k, func(g *gate.Gate) { s.Drain(g, 0) })
			must(t, s, record{kind: api.Summary, stripe: stripe, x: 5})
			want := slab.Part{N: 3, Pair: complex(0x1p53+4, -1), Min: 3, Max: 0x1p53}
			for i := range k - 5*stripe {
				switch i {
				case 0:
					want.N = 1
				case 1:
					want.Pair = complex(0, imag(want.Pair))
				case 2:
					want.Pair = complex(real(want.Pair), 0)
				case 3:
					want.Min = 5
				case 4:
					want.Max = 5
				}
			}
			want.Pair = pair.Add(want.Pair, 5)
			wants(t, []int{stripe, k}, drained(t, s, 0), want)
		}
	}
}

// Whatever is recorded and drained, in whichever order, is told as the model tells it, and by as many steps.
func TestSlabGoesAsTheModel(t *testing.T) {
	r := rand.New(rand.NewSource(111))
	for range 600 {
		kind, stripes, p := kinds[r.Intn(3)], 1+r.Intn(16), 1+r.Intn(4)
		s, m := laid(t, kind, stripes, p), newModel(kind, stripes, p)
		for range r.Intn(150) {
			if r.Intn(10) == 0 {
				buffer := r.Intn(2)
				wants(t, []int{kind, stripes, p}, drained(t, s, buffer), m.drain(buffer))
				continue
			}
			c := someRecord(r, kind, stripes)
			e := api.ErrArg
			n := steps(func(g *gate.Gate) { e = c.do(s, g) })
			if want := m.record(c); e != api.OK || n != want {
				t.Fatalf("%+v: %v, %d steps, not %d", c, e, n, want)
			}
		}
		for _, buffer := range []int{0, 1, 0, 1} {
			wants(t, []int{kind, stripes, p}, drained(t, s, buffer), m.drain(buffer))
		}
	}
}

// With a gate and without one the same is told.
func TestWithAndWithoutAGate(t *testing.T) {
	r := rand.New(rand.NewSource(112))
	for _, kind := range kinds {
		a, b := laid(t, kind, 3, 2), laid(t, kind, 3, 2)
		for range 20 {
			for range 30 {
				c := someRecord(r, kind, 3)
				must(t, a, c)
				steps(func(g *gate.Gate) { c.do(b, g) })
			}
			var p slab.Part
			buffer := r.Intn(2)
			steps(func(g *gate.Gate) { p, _ = b.Drain(g, buffer) })
			wants(t, kind, p, drained(t, a, buffer))
		}
	}
}

func TestSlabsAreApart(t *testing.T) {
	for _, kind := range kinds {
		a, b := laid(t, kind, 2, 1), laid(t, kind, 2, 1)
		must(t, a, record{kind, 0, 1, 7, 2.5})
		wants(t, kind, drained(t, b, 0), slab.Part{})
		if p := drained(t, a, 0); p.Total.Lo+p.N == 0 {
			t.Errorf("kind %d: lost", kind)
		}
	}
}

// Of two parts, one of which has no values, the ends are the other's; b's, if both have none. Of two ends that stand alike a's is told.
func TestMergeOfEnds(t *testing.T) {
	other := math.Float64frombits(0x7ff8000000000123)
	for _, c := range []struct {
		a, b, want slab.Part
	}{
		{slab.Part{N: 0, Min: 1, Max: 2}, slab.Part{N: 1, Min: 3, Max: 1}, slab.Part{N: 1, Min: 3, Max: 1}},
		{slab.Part{N: 1, Min: 1, Max: 2}, slab.Part{N: 0, Min: -3, Max: 9}, slab.Part{N: 1, Min: 1, Max: 2}},
		{slab.Part{N: 0, Min: 1, Max: 2}, slab.Part{N: 0, Min: 3, Max: 1}, slab.Part{N: 0, Min: 3, Max: 1}},
		{slab.Part{N: 1, Min: 1, Max: 2}, slab.Part{N: 1, Min: 3, Max: 1}, slab.Part{N: 2, Min: 1, Max: 2}},
		{slab.Part{N: 1, Min: 3, Max: 1}, slab.Part{N: 1, Min: 1, Max: 2}, slab.Part{N: 2, Min: 1, Max: 2}},
		{slab.Part{N: 1, Min: 0, Max: minusZero}, slab.Part{N: 1, Min: minusZero, Max: 0}, slab.Part{N: 2, Min: minusZero, Max: 0}},
		{slab.Part{N: 1, Min: minusZero, Max: 0}, slab.Part{N: 1, Min: 0, Max: minusZero}, slab.Part{N: 2, Min: minusZero, Max: 0}},
		{slab.Part{N: 1, Min: nan, Max: nan}, slab.Part{N: 1, Min: -inf, Max: -inf}, slab.Part{N: 2, Min: nan, Max: -inf}},
		{slab.Part{N: 1, Min: -inf, Max: -inf}, slab.Part{N: 1, Min: nan, Max: nan}, slab.Part{N: 2, Min: nan, Max: -inf}},
		{slab.Part{N: 1, Min: -inf, Max: inf}, slab.Part{N: 1, Min: inf, Max: -inf}, slab.Part{N: 2, Min: -inf, Max: inf}},
		// How many there are comes round to none: the ends stand all the same.
		{slab.Part{N: most, Min: 1, Max: 2}, slab.Part{N: 1, Min: 0, Max: 3}, slab.Part{N: 0, Min: 0, Max: 3}},
	} {
		wants(t, c, slab.Merge(c.a, c.b), c.want)
	}
	for _, c := range [][2]float64{{nan, other}, {other, nan}} {
		p := slab.Merge(slab.Part{N: 1, Min: c[0], Max: c[0]}, slab.Part{N: 1, Min: c[1], Max: c[1]})
		if want := math.Float64bits(c[0]); math.Float64bits(p.Min) != want || math.Float64bits(p.Max) != want {
			t.Errorf("two NaNs: %x, %x, not %x", math.Float64bits(p.Min), math.Float64bits(p.Max), want)
		}
	}
}

// Of parts that are made by hand.
func TestMergeExamples(t *testing.T) {
	count := func(l ...uint64) (out []api.Count) {
		for i := 0; i < len(l); i += 2 {
			out = append(out, api.Count{Index: int(l[i]), N: l[i+1]})
		}
		return out
	}
	for _, c := range []struct {
		a, b, want slab.Part
	}{
		{slab.Part{}, slab.Part{}, slab.Part{}},
		{slab.Part{Total: api.Int{Lo: most}}, slab.Part{Total: api.Int{Lo: 1}}, slab.Part{Total: api.Int{Hi: 1}}},
		{slab.Part{Total: api.Int{Hi: greatest, Lo: most}}, slab.Part{Total: api.Int{Lo: 1}}, slab.Part{Total: api.Int{Hi: least}}},
		{slab.Part{Total: api.Int{Hi: -1, Lo: most}}, slab.Part{Total: api.Int{Lo: 1}}, slab.Part{}},
		{slab.Part{Counts: count(1, 2, 3, 1, 8, 4)}, slab.Part{Counts: count(0, 1, 3, 2)}, slab.Part{Counts: count(0, 1, 1, 2, 3, 3, 8, 4)}},
		{slab.Part{Counts: count(3, 1, 3, 2, 1, 0)}, slab.Part{}, slab.Part{Counts: count(3, 3)}},
		{slab.Part{}, slab.Part{Counts: count(9, 1, 3, 2, 1, 0)}, slab.Part{Counts: count(3, 2, 9, 1)}},
		{slab.Part{Counts: count(5, 1<<63)}, slab.Part{Counts: count(5, 1<<63)}, slab.Part{}},
		{slab.Part{N: most}, slab.Part{N: 3}, slab.Part{N: 2}},
		{slab.Part{Pair: 0x1p53}, slab.Part{Pair: 1}, slab.Part{Pair: complex(0x1p53, 1)}},
		{slab.Part{Pair: complex(0x1p53, 1)}, slab.Part{Pair: 1}, slab.Part{Pair: complex(0x1p53, 2)}},
		{slab.Part{Pair: complex(inf, 0)}, slab.Part{Pair: 1}, slab.Part{Pair: complex(inf, nan)}},
		{slab.Part{Pair: complex(nan, inf)}, slab.Part{Pair: complex(1, -inf)}, slab.Part{Pair: complex(nan, nan)}},
	} {
		wants(t, c, slab.Merge(c.a, c.b), c.want)
	}
}

func TestMergeOfAnyParts(t *testing.T) {
	r := rand.New(rand.NewSource(113))
	for range 30000 {
		a, b := anyPart(r), anyPart(r)
		wants(t, []slab.Part{a, b}, slab.Merge(a, b), modelMerge(a, b))
	}
}

// sameValue tells whether two are the same in all, floats bit by bit.
func sameValue(a, b api.Value) bool {
	sameDesc := a.Desc.Kind == b.Desc.Kind && a.Desc.Name == b.Desc.Name && a.Desc.Help == b.Desc.Help && slices.Equal(a.Desc.Labels, b.Desc.Labels)
	return sameDesc && a.Total == b.Total && slices.Equal(a.Counts, b.Counts) && a.N == b.N && sameFloat(a.Sum, b.Sum) && sameFloat(a.Min, b.Min) && sameFloat(a.Max, b.Max)
}

// Each kind has what it may of a part that has everything; the counts are told as they stand.
func TestValueExamples(t *testing.T) {
	full := slab.Part{Total: api.Int{Hi: -3, Lo: 7}, Counts: []api.Count{{Index: 3, N: 1}, {Index: -1, N: 0}, {Index: 3, N: most}}, N: 9, Pair: complex(0x1p53, 2), Min: minusZero, Max: -1.5}
	desc := api.Desc{Name: "n{", Help: "h\xff", Labels: []api.Label{{Name: "b", Value: "1"}, {Name: "a", Value: "\n"}, {Name: "a", Value: ""}}}
	for _, kind := range slices.Concat(kinds, noKinds) {
		d := desc
		d.Kind = kind
		want := api.Value{Desc: d}
		switch kind {
		case api.Counter:
			want.Total = full.Total
		case api.Histogram:
			want.Total, want.Counts, want.N = full.Total, full.Counts, full.N
		case api.Summary:
			want.N, want.Sum, want.Min, want.Max = full.N, 0x1p53+2, full.Min, full.Max
		}
		if v := slab.Value(d, full); !sameValue(v, want) {
			t.Errorf("kind %d: %+v, not %+v", kind, v, want)
		}
		if v := slab.Value(d, slab.Part{}); !sameValue(v, api.Value{Desc: d}) {
			t.Errorf("kind %d, of no records: %+v", kind, v)
		}
	}
	if v := slab.Value(api.Desc{}, full); !reflect.DeepEqual(v, api.Value{}) {
		t.Errorf("no description: %+v", v)
	}
	if v := slab.Value(api.Desc{Kind: api.Summary}, slab.Part{Pair: complex(inf, -inf)}); !sameFloat(v.Sum, nan) {
		t.Errorf("a sum without a value: %v", v.Sum)
	}
}

func TestValueOfAnyParts(t *testing.T) {
	r := rand.New(rand.NewSource(114))
	for range 10000 {
		p := anyPart(r)
		for _, kind := range append(kinds, 0, 4) {
			want := api.Value{Desc: api.Desc{Kind: kind}}
			if kind == api.Counter || kind == api.Histogram {
				want.Total = p.Total
			}
			if kind == api.Histogram {
				want.Counts = p.Counts
			}
			if kind == api.Histogram || kind == api.Summary {
				want.N = p.N
			}
			if kind == api.Summary {
				want.Sum, want.Min, want.Max = pair.Total(p.Pair), p.Min, p.Max
			}
			if v := slab.Value(api.Desc{Kind: kind}, p); !sameValue(v, want) {
				t.Fatalf("%+v: %+v, not %+v", p, v, want)
			}
		}
	}
}

// P11.2: nothing is lost.

// Each stripe of each buffer has cells of its own: what is recorded in one shows in its buffer alone, and in the Drain's steps of that stripe alone.
func TestBuffersAndStripesAreApart(t *testing.T) {
	for _, kind := range kinds {
		const stripes = 16
		wide := width(kind, 1)
		for buffer := range 2 {
			for stripe := range stripes {
				s := laid(t, kind, stripes, 1)
				c := record{kind, buffer, stripe, 5, 5}
				want := row{n: []int64{5}, x: []float64{5}}.part(kind, 1)
				must(t, s, c)
				wants(t, c, drained(t, s, 1-buffer), slab.Part{})
				upTo(stripe*wide, func(g *gate.Gate) { s.Drain(g, buffer) })
				wants(t, c, drained(t, s, buffer), want)
				must(t, s, c)
				upTo((stripe+1)*wide, func(g *gate.Gate) { s.Drain(g, buffer) })
				wants(t, c, drained(t, s, buffer), slab.Part{})
			}
		}
	}
}

// Behind a Drain the buffer is as it was at first, and the other one as it was.
func TestBehindADrain(t *testing.T) {
	r := rand.New(rand.NewSource(115))
	for _, kind := range kinds {
		s := laid(t, kind, 3, 1)
		other := newModel(kind, 3, 1)
		for range 50 {
			c := someRecord(r, kind, 3)
			c.buffer = 1
			must(t, s, c)
			other.record(c)
		}
		for range 30 {
			fresh := newModel(kind, 3, 1)
			for range 20 {
				c := someRecord(r, kind, 3)
				c.buffer = 0
				n := steps(func(g *gate.Gate) { c.do(s, g) })
				if want := fresh.record(c); n != want {
					t.Fatalf("%+v: %d steps, not %d: the cells are not what they are at first", c, n, want)
				}
			}
			wants(t, kind, drained(t, s, 0), fresh.drain(0))
			wants(t, kind, drained(t, s, 0), slab.Part{})
		}
		wants(t, kind, drained(t, s, 1), other.drain(1))
	}
}

// The pairs of the stripes are merged from the first stripe on: rounding shows their order.
func TestPairsAreMergedStripeByStripe(t *testing.T) {
	r := rand.New(rand.NewSource(116))
	unlike := 0
	for range 2000 {
		s := laid(t, api.Summary, 4, 1)
		rows := make([][]float64, 4)
		for range 24 {
			x, stripe := r.NormFloat64()*math.Ldexp(1, r.Intn(240)), r.Intn(4)
			must(t, s, record{kind: api.Summary, stripe: stripe, x: x})
			rows[stripe] = append(rows[stripe], x)
		}
		var want, back pair.Pair
		for i := range rows {
			want = pair.Merge(want, pair.Of(rows[i]))
			back = pair.Merge(back, pair.Of(rows[3-i]))
		}
		if got := drained(t, s, 0).Pair; got != want {
			t.Fatalf("%v: %v, not %v", rows, got, want)
		}
		if back != want {
			unlike++
		}
	}
	if unlike == 0 {
		t.Error("no sums were tried that hang on their order")
	}
}

// Whoever's step comes next: threads that record in stripes of their own, and one that drains the other buffer, don't see each other.
func TestThreadsByAGate(t *testing.T) {
	r := rand.New(rand.NewSource(117))
	for range 400 {
		kind, stripes := kinds[r.Intn(3)], 3
		s, m := laid(t, kind, stripes, 1), newModel(kind, stripes, 1)
		for range 10 {
			c := someRecord(r, kind, stripes)
			c.buffer = 1
			must(t, s, c)
			m.record(c)
		}
		var bodies []func(g *gate.Gate)
		for stripe := range stripes {
			var l []record
			for range 8 {
				c := record{kind, 0, stripe, someWhole(r), someFloat(r)}
				l = append(l, c)
				m.record(c)
			}
			bodies = append(bodies, func(g *gate.Gate) {
				for _, c := range l {
					c.do(s, g)
				}
			})
		}
		var other slab.Part
		bodies = append(bodies, func(g *gate.Gate) { other, _ = s.Drain(g, 1) })
		picks := make([]int, 120)
		for i := range picks {
			picks[i] = r.Intn(len(bodies))
		}
		gate.Run(bodies, picks, true)
		wants(t, kind, other, m.drain(1))
		wants(t, kind, drained(t, s, 0), m.drain(0))
		wants(t, kind, drained(t, s, 1), slab.Part{})
	}
}

// Without a gate, too, as many goroutines record at one time as there are stripes, while one drains the other buffer.
func TestGoroutinesWithoutAGate(t *testing.T) {
	const stripes, times = 16, 500
	for _, kind := range kinds {
		s, m := laid(t, kind, stripes, 2), newModel(kind, stripes, 2)
		for buffer := range 4 {
			buffer %= 2
			var wait sync.WaitGroup
			for stripe := range stripes {
				r := rand.New(rand.NewSource(int64(stripe)))
				var l []record
				for range times {
					c := record{kind, buffer, stripe, someWhole(r), someFloat(r)}
					l = append(l, c)
					w := &m.rows[buffer][stripe]
					w.n, w.x = append(w.n, c.n), append(w.x, c.x)
				}
				wait.Go(func() {
					for _, c := range l {
						c.do(s, nil)
					}
				})
			}
			wants(t, kind, drained(t, s, 1-buffer), m.drain(1-buffer))
			wait.Wait()
		}
		wants(t, kind, drained(t, s, 1), m.drain(1))
	}
}

// P11.3: of whole numbers the sum, how many, and the buckets, whatever stripes they went by; Merge doesn't hang on the order.

func TestStripesDontMatterOfWholeNumbers(t *testing.T) {
	r := rand.New(rand.NewSource(118))
	for range 200 {
		for _, kind := range kinds[:2] {
			stripes := 1 + r.Intn(16)
			many, one := laid(t, kind, stripes, 3), laid(t, kind, 1, 3)
			sum, n := new(big.Int), map[int]uint64{}
			for range 100 {
				v := someWhole(r)
				must(t, many, record{kind: kind, stripe: r.Intn(stripes), n: v})
				must(t, one, record{kind: kind, n: v})
				sum.Add(sum, big.NewInt(v))
				i, _ := bucket.Index(3, v)
				n[i]++
			}
			want := slab.Part{Total: brought(sum)}
			if kind == api.Histogram {
				want.Counts, want.N = countsOf(n), 100
			}
			wants(t, stripes, drained(t, many, 0), want)
			wants(t, 1, drained(t, one, 0), want)
		}
	}
}

func TestMergeDoesntHangOnTheOrder(t *testing.T) {
	r := rand.New(rand.NewSource(119))
	wholePart := func() slab.Part {
		p := anyPart(r)
		return slab.Part{Total: p.Total, Counts: p.Counts, N: p.N}
	}
	for range 10000 {
		a, b, c := wholePart(), wholePart(), wholePart()
		wants(t, "turned round", slab.Merge(a, b), slab.Merge(b, a))
		wants(t, "which first", slab.Merge(slab.Merge(a, b), c), slab.Merge(a, slab.Merge(b, c)))
	}
}

// A part that came of records is itself, merged with one of none, either way round; of floats too.
func TestMergeWithNothing(t *testing.T) {
	r := rand.New(rand.NewSource(120))
	for range 300 {
		kind := kinds[r.Intn(3)]
		s := laid(t, kind, 2, 2)
		for range r.Intn(10) {
			c := someRecord(r, kind, 2)
			c.buffer = 0
			must(t, s, c)
		}
		p := drained(t, s, 0)
		wants(t, kind, slab.Merge(p, slab.Part{}), p)
		wants(t, kind, slab.Merge(slab.Part{}, p), p)
	}
}

// P11.4: R3, also of Counts and Labels.

// roomy tells a list as a piece of a longer one, and whether that is as it was.
func roomy[T comparable](l []T, spare T) (out []T, left func() bool) {
	all := append(slices.Clone(l), spare, spare, spare)
	was := slices.Clone(all)
	return all[:len(l)], func() bool { return slices.Equal(all, was) }
}

// spoil writes over all of a list, its spare room too.
func spoil[T any](l []T, x T) {
	l = l[:cap(l)]
	for i := range l {
		l[i] = x
	}
}

func TestNoListIsSharedByMerge(t *testing.T) {
	r := rand.New(rand.NewSource(121))
	odd := api.Count{Index: 77, N: 77}
	for range 3000 {
		a, b := anyPart(r), anyPart(r)
		switch r.Intn(3) {
		case 0:
			a.Counts = nil
		case 1:
			b.Counts = nil
		}
		wantA, wantB := slices.Clone(a.Counts), slices.Clone(b.Counts)
		var leftA, leftB func() bool
		a.Counts, leftA = roomy(a.Counts, odd)
		b.Counts, leftB = roomy(b.Counts, odd)
		first := slab.Merge(a, b)
		want := slices.Clone(first.Counts)
		second := slab.Merge(a, b)
		spoil(second.Counts, api.Count{Index: 5, N: 5})
		if !leftA() || !leftB() || !slices.Equal(a.Counts, wantA) || !slices.Equal(b.Counts, wantB) || !slices.Equal(first.Counts, want) {
			t.Fatal("what an answer holds stands in an argument, or in another answer")
		}
		spoil(a.Counts, odd)
		spoil(b.Counts, odd)
		if !slices.Equal(first.Counts, want) {
			t.Fatal("an answer hangs on what was handed in")
		}
	}
}

func TestNoListIsSharedByValue(t *testing.T) {
	oddCount, oddLabel := api.Count{Index: 77, N: 77}, api.Label{Name: "odd", Value: "odd"}
	for n := range 5 {
		for _, kind := range append(kinds, 0, 4) {
			d, p := api.Desc{Kind: kind, Name: "n"}, slab.Part{N: 1}
			for i := range n {
				d.Labels = append(d.Labels, api.Label{Name: "a", Value: string(rune('a' + i))})
				p.Counts = append(p.Counts, api.Count{Index: i, N: 3})
			}
			want := slab.Value(d, p)
			var leftLabels, leftCounts func() bool
			d.Labels, leftLabels = roomy(d.Labels, oddLabel)
			p.Counts, leftCounts = roomy(p.Counts, oddCount)
			first, second := slab.Value(d, p), slab.Value(d, p)
			spoil(second.Counts, api.Count{Index: 5, N: 5})
			spoil(second.Desc.Labels, api.Label{Name: "x"})
			if !leftLabels() || !leftCounts() || !sameValue(first, want) {
				t.Fatalf("kind %d: what an answer holds stands in an argument, or in another answer", kind)
			}
			spoil(p.Counts, oddCount)
			spoil(d.Labels, oddLabel)
			if !sameValue(first, want) {
				t.Fatalf("kind %d: an answer hangs on what was handed in", kind)
			}
		}
	}
}

func TestNoListIsSharedByDrain(t *testing.T) {
	s := laid(t, api.Histogram, 2, 1)
	var all []slab.Part
	for i := range 8 {
		for stripe := range 2 {
			for v := range int64(5) {
				must(t, s, record{api.Histogram, i % 2, stripe, v, 0})
			}
		}
		all = append(all, drained(t, s, i%2))
	}
	want := slices.Clone(all[0].Counts)
	for i, p := range all {
		if !slices.Equal(p.Counts, want) || p.N != 10 {
			t.Errorf("Drain number %d: %+v", i, p)
		}
		spoil(p.Counts, api.Count{Index: 7, N: 7})
	}
	wants(t, "behind all", drained(t, s, 0), slab.Part{})
}
