package ring_test

import (
	"cmp"
	"math"
	"math/big"
	"math/rand"
	"slices"
	"strconv"
	"testing"

	"gnomon/api"
	"gnomon/ring"
	"gnomon/snap"
)

const (
	first = math.MinInt64
	last  = math.MaxInt64
	// mostOf64 is the greatest number without a sign.
	mostOf64 = math.MaxUint64
)

// greatest is 2^127 - 1.
var greatest = api.Int{Hi: math.MaxInt64, Lo: math.MaxUint64}

// labels tells a list of labels, name and value by turns.
func labels(l ...string) []api.Label {
	var out []api.Label
	for i := 0; i < len(l); i += 2 {
		out = append(out, api.Label{Name: l[i], Value: l[i+1]})
	}
	return out
}

func counter(name string, n uint64, l ...string) api.Value {
	return api.Value{Desc: api.Desc{Kind: api.Counter, Name: name, Labels: labels(l...)}, Total: api.Int{Lo: n}}
}

// wideCounter tells one without labels whose Total may be beyond 64 bits.
func wideCounter(name string, total api.Int) api.Value {
	return api.Value{Desc: api.Desc{Kind: api.Counter, Name: name}, Total: total}
}

// histogram tells one of n values, all of them 1.
func histogram(name string, n uint64, l ...string) api.Value {
	v := api.Value{Desc: api.Desc{Kind: api.Histogram, Name: name, Labels: labels(l...)}, Total: api.Int{Lo: n}, N: n}
	if n > 0 {
		v.Counts = []api.Count{{Index: 1, N: n}}
	}
	return v
}

// summary tells one of n values, whose sum is that.
func summary(name string, n uint64, sum float64, l ...string) api.Value {
	return api.Value{Desc: api.Desc{Kind: api.Summary, Name: name, Labels: labels(l...)}, N: n, Sum: sum, Min: -1, Max: 2}
}

// helped tells a value with another help.
func helped(v api.Value, help string) api.Value {
	v.Desc.Help = help
	return v
}

// of tells the snapshot of the precision 2 with these values.
func of(l ...api.Value) api.Snapshot { return api.Snapshot{Precision: 2, Values: l} }

// c tells the snapshot of one Counter c.
func c(n uint64) api.Snapshot { return of(counter("c", n)) }

// precise tells a snapshot of another precision.
func precise(s api.Snapshot, p int) api.Snapshot {
	s.Precision = p
	return s
}

// refused tells a snapshot with so many records that were refused.
func refused(s api.Snapshot, n uint64) api.Snapshot {
	s.Refused = n
	return s
}

// counters tells n of them, from the one number from on.
func counters(from, n int) []api.Value {
	var out []api.Value
	for i := range n {
		out = append(out, counter("n"+strconv.Itoa(1000+from+i), uint64(i)))
	}
	return out
}

// held is a snapshot with its time.
type held struct {
	at int64
	s  api.Snapshot
}

// model is a ring as the chapter's words have it: a plain list, the newest one last.
type model struct {
	room int
	all  []held
}

// unlike tells whether two snapshots can't be in one ring.
func unlike(a, b api.Snapshot) bool {
	if a.Precision != b.Precision {
		return true
	}
	for _, x := range a.Values {
		for _, y := range b.Values {
			if x.Desc.Name == y.Desc.Name && (x.Desc.Kind != y.Desc.Kind || x.Desc.Help != y.Desc.Help) {
				return true
			}
		}
	}
	return false
}

func (m *model) push(at int64, s api.Snapshot) api.Errno {
	if e, _ := snap.Check(s); e != api.OK {
		return e
	}
	for _, h := range m.all {
		if h.at >= at {
			return api.ErrOrder
		}
	}
	for _, h := range m.all {
		if unlike(h.s, s) {
			return api.ErrUnlike
		}
	}
	m.all = append(slices.Clone(m.all), held{at, deep(s)})
	if len(m.all) > m.room {
		m.all = m.all[1:]
	}
	return api.OK
}

func (m *model) times() []int64 {
	var out []int64
	for _, h := range m.all {
		out = append(out, h.at)
	}
	return out
}

func (m *model) window(from, to int64) (api.Snapshot, int, api.Errno) {
	var in []api.Snapshot
	for _, h := range m.all {
		if from < h.at && h.at <= to {
			in = append(in, h.s)
		}
	}
	if len(in) == 0 {
		return api.Snapshot{}, 0, api.ErrEmpty
	}
	so := in[0]
	for _, s := range in[1:] {
		var e api.Errno
		if so, e = snap.Merge(so, s); e != api.OK {
			return api.Snapshot{}, 0, e
		}
	}
	return so, len(in), api.OK
}

// nearest tells the float nearest to a whole number of any length.
func nearest(n *big.Int) *big.Rat {
	x, _ := new(big.Rat).SetInt(n).Float64()
	return new(big.Rat).SetFloat64(x)
}

// quotient tells a Total by how far two times lie apart, worked out without floats up to the last rounding.
func quotient(total api.Int, from, to int64) float64 {
	n := new(big.Int).Lsh(big.NewInt(total.Hi), 64)
	n.Add(n, new(big.Int).SetUint64(total.Lo))
	length := new(big.Int).Sub(big.NewInt(to), big.NewInt(from))
	x, _ := new(big.Rat).Quo(nearest(n), nearest(length)).Float64()
	return x
}

func (m *model) rate(name string, l []api.Label, from, to int64) (float64, api.Errno) {
	if from >= to {
		return 0, api.ErrArg
	}
	s, _, e := m.window(from, to)
	if e != api.OK {
		return 0, e
	}
	for _, v := range s.Values {
		if v.Desc.Name != name || !slices.Equal(v.Desc.Labels, l) {
			continue
		}
		if v.Desc.Kind != api.Counter {
			return 0, api.ErrKind
		}
		return quotient(v.Total, from, to), api.OK
	}
	return 0, api.ErrAbsent
}

func one[T any](r *rand.Rand, l ...T) T { return l[r.Intn(len(l))] }

// someFloat tells a finite float; few are so great that sums of them come to infinities.
func someFloat(r *rand.Rand) float64 {
	if r.Intn(40) == 0 {
		return one(r, 0x1p1023, -0x1p1023, math.MaxFloat64)
	}
	return one(r, 0, math.Copysign(0, -1), 1, 0.1, 1e16, -1e16, 5e-324, r.NormFloat64())
}

// someValue tells a value of a family that all snapshots have alike, if nothing is changed in it.
func someValue(r *rand.Rand, name string, l []api.Label) api.Value {
	d := api.Desc{Kind: 1 + int(name[0])%3, Name: name, Labels: l, Help: []string{"", "all"}[len(name)%2]}
	v := api.Value{Desc: d}
	switch d.Kind {
	case api.Counter:
		v.Total = one(r, api.Int{}, api.Int{Lo: 1}, api.Int{Lo: r.Uint64()}, api.Int{Hi: r.Int63() >> 10, Lo: r.Uint64()})
		if r.Intn(60) == 0 {
			v.Total = one(r, greatest, api.Int{Hi: 1 << 62})
		}
	case api.Histogram:
		for _, i := range []int{1, 2, 3} {
			if n := uint64(r.Intn(4)); n > 0 {
				v.Counts = append(v.Counts, api.Count{Index: i, N: n})
				v.Total.Lo += uint64(i) * n
				v.N += n
			}
		}
	case api.Summary:
		if v.N = uint64(r.Intn(3)); v.N > 0 {
			v.Sum, v.Min, v.Max = someFloat(r), someFloat(r), someFloat(r)
			if cmp.Compare(v.Min, v.Max) > 0 || v.Min == 0 && v.Max == 0 {
				v.Min, v.Max = -math.MaxFloat64, math.MaxFloat64
			}
		}
	}
	return v
}

// some tells a snapshot that may be, and of few series, so that two of them share many.
func some(r *rand.Rand) api.Snapshot {
	s := of()
	s.Refused = one(r, 0, 1, uint64(r.Int63()>>8))
	if r.Intn(80) == 0 {
		s.Refused = one[uint64](r, mostOf64, mostOf64-1, 1<<63)
	}
	for _, name := range []string{"a", "ab", "b", "bc", "c", "cd"} {
		for _, l := range [][]api.Label{nil, labels("x", "1"), labels("x", "1", "y", "2")} {
			if r.Intn(3) == 0 {
				s.Values = append(s.Values, someValue(r, name, l))
			}
		}
	}
	return s
}

// odd tells a snapshot that may not be, or can't stand beside others.
func odd(r *rand.Rand) api.Snapshot {
	s := some(r)
	name := one(r, "a", "ab", "b", "bc", "c", "cd")
	kind := one(r, api.Counter, api.Histogram, api.Summary)
	switch r.Intn(5) {
	case 0:
		return precise(s, one(r, 0, -1, 1, 3, api.MaxPrecision, api.MaxPrecision+1))
	case 1:
		slices.Reverse(s.Values)
	case 2:
		if len(s.Values) > 0 {
			s.Values[r.Intn(len(s.Values))].Sum = math.NaN()
		}
	case 3:
		for i := range s.Values {
			if s.Values[i].Desc.Name == name {
				s.Values[i].Desc.Help = "another"
			}
		}
	case 4:
		for i := range s.Values {
			if s.Values[i].Desc.Name == name {
				s.Values[i] = api.Value{Desc: s.Values[i].Desc}
				s.Values[i].Desc.Kind = kind
			}
		}
	}
	return s
}

// someTime tells a time that often is that of a snapshot, or lies beside it.
func someTime(r *rand.Rand, m *model) int64 {
	if r.Intn(12) == 0 {
		return one[int64](r, first, first+1, -1, 0, last-1, last)
	}
	if len(m.all) == 0 {
		return int64(r.Intn(100))
	}
	return m.all[r.Intn(len(m.all))].at + int64(r.Intn(3)) - 1
}

// agrees holds all that a ring tells against the model.
func agrees(t *testing.T, r *rand.Rand, g *ring.Ring, m *model) {
	t.Helper()
	if g.Len() != len(m.all) || !slices.Equal(g.Times(), m.times()) {
		t.Fatalf("Len %d, Times %v, want %v", g.Len(), g.Times(), m.times())
	}
	for range 3 {
		from, to := someTime(r, m), someTime(r, m)
		s, n, e := g.Window(from, to)
		wantS, wantN, wantE := m.window(from, to)
		if e != wantE || n != wantN || !snap.Same(s, wantS) {
			t.Fatalf("Window(%d, %d) of %v: %v, %d, %v, want %v, %d, %v", from, to, m.times(), s, n, e, wantS, wantN, wantE)
		}
		name, l := one(r, "a", "b", "c", "cd", "d"), one(r, nil, labels("x", "1"), labels("x", "1", "y", "2"), labels("y", "2", "x", "1"))
		x, e := g.Rate(name, l, from, to)
		wantX, wantE := m.rate(name, l, from, to)
		if e != wantE || math.Float64bits(x) != math.Float64bits(wantX) {
			t.Fatalf("Rate(%s, %v, %d, %d): %v, %v, want %v, %v", name, l, from, to, x, e, wantX, wantE)
		}
	}
}

// TestDrawnCalls: whatever is pushed, copied and asked, a ring tells what the chapter's words say.
func TestDrawnCalls(t *testing.T) {
	r := rand.New(rand.NewSource(211))
	told := map[api.Errno]int{}
	round := 0
	for range 600 {
		room := one(r, 1, 2, 3, 5, 8)
		g, _ := ring.New(room)
		m := &model{room: room}
		at := one[int64](r, 0, -50, first, last-40)
		for range r.Intn(30) {
			s := some(r)
			if r.Intn(4) == 0 {
				s = odd(r)
			}
			if r.Intn(6) > 0 && at < last-3 {
				at += 1 + int64(r.Intn(3))
			}
			e, want := g.Push(at, s), m.push(at, s)
			if e != want {
				t.Fatalf("Push(%d, %v) behind %v: %v, want %v", at, s, m.times(), e, want)
			}
			told[e]++
			if r.Intn(10) == 0 {
				g = g.Copy()
			}
			agrees(t, r, g, m)
		}
		if len(m.all) == room {
			round++
		}
	}
	for _, e := range []api.Errno{api.OK, api.ErrArg, api.ErrOrder, api.ErrUnlike, api.ErrRange} {
		if told[e] < 50 {
			t.Errorf("too little was tried: %v was told %d times", e, told[e])
		}
	}
	if round < 100 {
		t.Errorf("too little was tried: %d rings were full", round)
	}
}
