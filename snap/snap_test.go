package snap_test

import (
	"cmp"
	"math"
	"math/big"
	"math/rand"
	"slices"
	"strconv"
	"strings"
	"testing"

	"gnomon/api"
	"gnomon/bucket"
	"gnomon/label"
	"gnomon/ranks"
	"gnomon/snap"
)

var (
	minus = math.Copysign(0, -1)
	nan   = math.NaN()
	inf   = math.Inf(1)
)

const (
	mostOf63  = math.MaxInt64
	mostOf64  = math.MaxUint64
	mostFloat = math.MaxFloat64
)

// greatest is 2^127 - 1.
var greatest = api.Int{Hi: math.MaxInt64, Lo: math.MaxUint64}

// labels tells a list of labels, name and value by turns.
func labels(l ...string) []api.Label {
	var out []api.Label
	for i := 0; i < len(l); i += 2 {
		out = append(out, api.Label{Name: l[i], Value: l[i+1]})
	}
	return out
}

// counts tells a list of counts, index and number by turns.
func counts(l ...uint64) []api.Count {
	var out []api.Count
	for i := 0; i < len(l); i += 2 {
		out = append(out, api.Count{Index: int(l[i]), N: l[i+1]})
	}
	return out
}

func counter(name string, n uint64, l ...string) api.Value {
	return api.Value{Desc: api.Desc{Kind: api.Counter, Name: name, Labels: labels(l...)}, Total: api.Int{Lo: n}}
}

// histogram tells one whose N is that of its counts.
func histogram(name string, total uint64, c ...uint64) api.Value {
	v := api.Value{Desc: api.Desc{Kind: api.Histogram, Name: name}, Total: api.Int{Lo: total}, Counts: counts(c...)}
	for _, one := range v.Counts {
		v.N += one.N
	}
	return v
}

func summary(name string, n uint64, sum, least, most float64) api.Value {
	return api.Value{Desc: api.Desc{Kind: api.Summary, Name: name}, N: n, Sum: sum, Min: least, Max: most}
}

// but tells a value that was changed.
func but(v api.Value, change func(v *api.Value)) api.Value {
	change(&v)
	return v
}

// helped tells a value with another help.
func helped(v api.Value, help string) api.Value {
	v.Desc.Help = help
	return v
}

// of tells the snapshot of the precision 2 with these values.
func of(l ...api.Value) api.Snapshot { return api.Snapshot{Precision: 2, Values: l} }

// named tells a name that rises with n.
func named(n int) string { return "n" + strconv.Itoa(1000+n) }

// counters tells n of them, from the one number from on.
func counters(from, n int) []api.Value {
	var out []api.Value
	for i := range n {
		out = append(out, counter(named(from+i), uint64(i)))
	}
	return out
}

// noPrecisions tells numbers that are no precision, those beside the least and the greatest one among them.
func noPrecisions() []int {
	return []int{0, -1, -2, api.MaxPrecision + 1, api.MaxPrecision + 2, 255, 1<<8 + 2, 1<<16 + 2, 1 << 32, 1<<32 + 2, math.MaxInt, math.MinInt, math.MinInt + 2}
}

// whole tells a number of 128 bits as one of any length.
func whole(a api.Int) *big.Int {
	n := new(big.Int).Lsh(big.NewInt(a.Hi), 64)
	return n.Add(n, new(big.Int).SetUint64(a.Lo))
}

// narrow tells a number as one of 128 bits, and whether it is one.
func narrow(n *big.Int) (api.Int, bool) {
	lo := new(big.Int).And(n, new(big.Int).SetUint64(mostOf64)).Uint64()
	a := api.Int{Hi: new(big.Int).Rsh(n, 64).Int64(), Lo: lo}
	return a, whole(a).Cmp(n) == 0
}

// key tells where a float stands among all others but NaN, as a whole number.
func key(x float64) int64 {
	if math.Signbit(x) {
		return -1 - int64(math.Float64bits(x)&^(1<<63))
	}
	return int64(math.Float64bits(x))
}

func sameFloat(a, b float64) bool {
	return math.Float64bits(a) == math.Float64bits(b) || math.IsNaN(a) && math.IsNaN(b)
}

func finite(x float64) bool { return !math.IsNaN(x) && !math.IsInf(x, 0) }

// plain tells whether floats are all 0, without a sign.
func plain(l ...float64) bool {
	return !slices.ContainsFunc(l, func(x float64) bool { return math.Float64bits(x) != 0 })
}

func modelSameValue(a, b api.Value) bool {
	return a.Desc.Kind == b.Desc.Kind && a.Desc.Name == b.Desc.Name && a.Desc.Help == b.Desc.Help && slices.Equal(a.Desc.Labels, b.Desc.Labels) &&
		a.Total == b.Total && slices.Equal(a.Counts, b.Counts) && a.N == b.N && sameFloat(a.Sum, b.Sum) && sameFloat(a.Min, b.Min) && sameFloat(a.Max, b.Max)
}

func modelSame(a, b api.Snapshot) bool {
	return a.Precision == b.Precision && a.Refused == b.Refused && slices.EqualFunc(a.Values, b.Values, modelSameValue)
}

// series tells a text that two values share just if their series are the same.
func series(d api.Desc) string {
	out := strconv.Quote(d.Name)
	for _, l := range d.Labels {
		out += strconv.Quote(l.Name) + strconv.Quote(l.Value)
	}
	return out
}

// modelCompare tells how two series stand.
func modelCompare(a, b api.Desc) int {
	texts := func(d api.Desc) []string {
		out := []string{d.Name}
		for _, l := range d.Labels {
			out = append(out, l.Name, l.Value)
		}
		return out
	}
	return slices.Compare(texts(a), texts(b))
}

// modelHistogram tells whether a histogram holds what it may, but for its floats.
func modelHistogram(p int, v api.Value) bool {
	least, most, n, ahead := new(big.Int), new(big.Int), new(big.Int), -1
	for _, c := range v.Counts {
		if c.Index <= ahead || c.Index >= bucket.Length(p) || c.N == 0 {
			return false
		}
		ahead = c.Index
		low, _ := bucket.Low(p, c.Index)
		high, _ := bucket.High(p, c.Index)
		many := new(big.Int).SetUint64(c.N)
		n.Add(n, many)
		least.Add(least, new(big.Int).Mul(many, big.NewInt(low)))
		most.Add(most, new(big.Int).Mul(many, big.NewInt(high)))
	}
	if n.Cmp(big.NewInt(mostOf63)) > 0 || n.Cmp(new(big.Int).SetUint64(v.N)) != 0 {
		return false
	}
	return least.Cmp(whole(v.Total)) <= 0 && whole(v.Total).Cmp(most) <= 0
}

// modelHolds tells whether a value holds what it may.
func modelHolds(p int, v api.Value) bool {
	switch v.Desc.Kind {
	case api.Counter:
		return v.Total.Hi >= 0 && len(v.Counts) == 0 && v.N == 0 && plain(v.Sum, v.Min, v.Max)
	case api.Histogram:
		return plain(v.Sum, v.Min, v.Max) && modelHistogram(p, v)
	}
	if v.Total.Hi != 0 || v.Total.Lo != 0 || len(v.Counts) > 0 || v.N > mostOf63 {
		return false
	}
	if v.N == 0 {
		return plain(v.Sum, v.Min, v.Max)
	}
	return finite(v.Sum) && finite(v.Min) && finite(v.Max) && key(v.Min) <= key(v.Max)
}

// modelCheck tells a snapshot's error and its number, value by value as the chapter lists them.
func modelCheck(s api.Snapshot) (api.Errno, int) {
	if s.Precision < 1 || s.Precision > 14 {
		return api.ErrArg, 0
	}
	if len(s.Values) > 256 {
		return api.ErrMany, 256
	}
	for i, v := range s.Values {
		if e := label.Check(v.Desc); e != api.OK {
			return e, i
		}
		if !modelHolds(s.Precision, v) {
			return api.ErrRange, i
		}
		if i == 0 {
			continue
		}
		last := s.Values[i-1].Desc
		if series(last) == series(v.Desc) {
			return api.ErrTwice, i
		}
		if modelCompare(v.Desc, last) < 0 {
			return api.ErrOrder, i
		}
		if last.Name == v.Desc.Name && (last.Kind != v.Desc.Kind || last.Help != v.Desc.Help) {
			return api.ErrUnlike, i
		}
	}
	return api.OK, 0
}

// modelJoin tells what two values of a series come to.
func modelJoin(a, b api.Value) (api.Value, api.Errno) {
	out := api.Value{Desc: a.Desc, N: a.N + b.N}
	total, ok := narrow(new(big.Int).Add(whole(a.Total), whole(b.Total)))
	if !ok || out.N > mostOf63 {
		return api.Value{}, api.ErrMany
	}
	out.Total = total
	n := map[int]uint64{}
	for _, c := range slices.Concat(a.Counts, b.Counts) {
		n[c.Index] += c.N
	}
	for i, many := range n {
		out.Counts = append(out.Counts, api.Count{Index: i, N: many})
	}
	slices.SortFunc(out.Counts, func(x, y api.Count) int { return cmp.Compare(x.Index, y.Index) })
	if a.Desc.Kind != api.Summary {
		return out, api.OK
	}
	if a.N == 0 {
		return b, api.OK
	}
	if b.N == 0 {
		return a, api.OK
	}
	out.Sum, out.Min, out.Max = a.Sum+b.Sum, a.Min, a.Max
	if math.IsInf(out.Sum, 0) {
		return api.Value{}, api.ErrRange
	}
	if key(b.Min) < key(a.Min) {
		out.Min = b.Min
	}
	if key(b.Max) > key(a.Max) {
		out.Max = b.Max
	}
	return out, api.OK
}

// modelFamilies tells whether each name that both have is of one family.
func modelFamilies(a, b []api.Value) bool {
	for _, x := range a {
		for _, y := range b {
			if x.Desc.Name == y.Desc.Name && (x.Desc.Kind != y.Desc.Kind || x.Desc.Help != y.Desc.Help) {
				return false
			}
		}
	}
	return true
}

// modelMerge tells two snapshots as one, by a plain list of all series.
func modelMerge(a, b api.Snapshot) (api.Snapshot, api.Errno) {
	for _, s := range []api.Snapshot{a, b} {
		if e, _ := modelCheck(s); e != api.OK {
			return api.Snapshot{}, e
		}
	}
	if a.Precision != b.Precision || !modelFamilies(a.Values, b.Values) {
		return api.Snapshot{}, api.ErrUnlike
	}
	of := map[string][]api.Value{}
	var all []api.Desc
	for _, v := range slices.Concat(a.Values, b.Values) {
		if len(of[series(v.Desc)]) == 0 {
			all = append(all, v.Desc)
		}
		of[series(v.Desc)] = append(of[series(v.Desc)], v)
	}
	if len(all) > 256 {
		return api.Snapshot{}, api.ErrMany
	}
	slices.SortFunc(all, modelCompare)
	out := api.Snapshot{Precision: a.Precision, Refused: a.Refused + b.Refused}
	for _, d := range all {
		v, e := of[series(d)][0], api.OK
		if two := of[series(d)]; len(two) == 2 {
			v, e = modelJoin(two[0], two[1])
		}
		if e != api.OK {
			return api.Snapshot{}, e
		}
		out.Values = append(out.Values, v)
	}
	if a.Refused > mostOf64-b.Refused {
		return api.Snapshot{}, api.ErrMany
	}
	return out, api.OK
}

func one[T any](r *rand.Rand, l ...T) T { return l[r.Intn(len(l))] }

// someFloat tells a finite float that often lies at an edge.
func someFloat(r *rand.Rand) float64 {
	x := one(r, 0, minus, 1, -1, 0.1, 1e16, -1e16, 0x1p960, -0x1p960, mostFloat, -mostFloat, 0x1p1023, 5e-324, -5e-324, r.NormFloat64())
	// Few sums may come to infinities, or hardly a merge would be told.
	if math.Abs(x) > 0x1p1000 && r.Intn(8) > 0 {
		return 2
	}
	return x
}

// someN tells how many values there are.
func someN(r *rand.Rand) uint64 {
	if r.Intn(30) == 0 {
		return one[uint64](r, mostOf63, mostOf63-1, 1<<62, 1<<62-1)
	}
	return one[uint64](r, 1, 2, 3, uint64(r.Int63())>>10)
}

// fill gives a value what it may hold.
func fill(r *rand.Rand, p int, v api.Value) api.Value {
	switch v.Desc.Kind {
	case api.Counter:
		v.Total = one(r, api.Int{}, api.Int{Lo: 1}, api.Int{Lo: mostOf64}, api.Int{Hi: r.Int63() >> 1, Lo: r.Uint64()}, api.Int{Hi: 1 << 40})
		if r.Intn(100) == 0 {
			v.Total = one(r, greatest, api.Int{Hi: 1 << 62}, api.Int{Hi: 1<<62 - 1, Lo: mostOf64})
		}
	case api.Histogram:
		return fillCounts(r, p, v)
	case api.Summary:
		if v.N = 0; r.Intn(4) > 0 {
			v.N = someN(r)
			v.Sum, v.Min, v.Max = someFloat(r), someFloat(r), someFloat(r)
			if key(v.Min) > key(v.Max) {
				v.Min, v.Max = v.Max, v.Min
			}
		}
	}
	return v
}

// fillCounts gives a histogram counts, and a total between the least and the greatest one that they may come to.
func fillCounts(r *rand.Rand, p int, v api.Value) api.Value {
	total := new(big.Int)
	for range r.Intn(5) {
		i := one(r, r.Intn(20), r.Intn(bucket.Length(p)), bucket.Length(p)-1)
		n := someN(r)
		if slices.ContainsFunc(v.Counts, func(c api.Count) bool { return c.Index == i }) || v.N+n > mostOf63 {
			continue
		}
		v.Counts = append(v.Counts, api.Count{Index: i, N: n})
		v.N += n
		low, _ := bucket.Low(p, i)
		high, _ := bucket.High(p, i)
		between := one(r, low, high, low+r.Int63n(high-low+1))
		total.Add(total, new(big.Int).Mul(new(big.Int).SetUint64(n), big.NewInt(between)))
	}
	slices.SortFunc(v.Counts, func(x, y api.Count) int { return cmp.Compare(x.Index, y.Index) })
	v.Total, _ = narrow(total)
	return v
}

// kindOf, helpOf: what all snapshots have of the family of a name, if nothing is unlike.
func kindOf(name string) int { return 1 + int(name[0])%3 }

func helpOf(name string) string { return []string{"", "all", "ü\n"}[int(name[len(name)-1])%3] }

// some tells a snapshot that may be, of few series, so that two of them share many.
func some(r *rand.Rand, p int) api.Snapshot {
	s := api.Snapshot{Precision: p, Refused: one(r, 0, 1, uint64(r.Int63()))}
	if r.Intn(60) == 0 {
		s.Refused = one(r, mostOf64, mostOf64-uint64(r.Intn(3)), 1<<63)
	}
	for _, name := range []string{"a", "ab", "b", "b:", "c", "c_"} {
		for _, l := range [][]api.Label{nil, labels("x", ""), labels("x", "1"), labels("x", "1", "y", "2"), labels("x", "10"), labels("y", "\xc3\xbc")} {
			if r.Intn(3) == 0 {
				v := api.Value{Desc: api.Desc{Kind: kindOf(name), Name: name, Help: helpOf(name), Labels: l}}
				s.Values = append(s.Values, fill(r, p, v))
			}
		}
	}
	return s
}

// rehelp gives all values of a name another help.
func rehelp(s api.Snapshot, name, help string) {
	for i := range s.Values {
		if s.Values[i].Desc.Name == name {
			s.Values[i].Desc.Help = help
		}
	}
}

// spoilValue makes something of a value, often such that it may not be any more.
func spoilValue(r *rand.Rand, v api.Value) api.Value {
	odd := one(r, minus, nan, inf, -inf, 1, -1)
	switch r.Intn(12) {
	case 0:
		v.Desc.Kind = r.Intn(6) - 1
	case 1:
		v.Desc.Name = one(r, "", "a", "b", "d", "x_sum", "ü")
	case 2:
		v.Desc.Help = one(r, "", "all", "another", "\xff", strings.Repeat("a", 1025))
	case 3:
		v.Desc.Labels = one(r, labels("x", "1"), labels("x", "1", "x", "2"), labels("y", "1", "x", "2"), labels("le", "1"), labels("x", "\xff"), nil)
	case 4:
		v.Total.Lo += one[uint64](r, 1, mostOf64, 1<<63)
	case 5:
		v.Total.Hi = one[int64](r, -1, 1, math.MinInt64, mostOf63, 0)
	case 6:
		v.N += one[uint64](r, 1, mostOf64, 1<<63)
	case 7:
		v.Counts = append(slices.Clone(v.Counts), api.Count{Index: one(r, -1, 3, 1<<20, 1<<32+400), N: one[uint64](r, 0, 1, mostOf64)})
	case 8:
		v.Counts = nil
	case 9:
		v.Sum = odd
	case 10:
		v.Min = odd
	case 11:
		v.Max = odd
	}
	return v
}

// anySnapshot tells one that often may not be.
func anySnapshot(r *rand.Rand) api.Snapshot {
	s := some(r, 1+r.Intn(4))
	for r.Intn(2) == 0 && len(s.Values) > 0 {
		i, j := r.Intn(len(s.Values)), r.Intn(len(s.Values))
		switch r.Intn(5) {
		case 0:
			s.Values[i], s.Values[j] = s.Values[j], s.Values[i]
		case 1:
			s.Values = slices.Insert(s.Values, i, s.Values[j])
		default:
			s.Values[i] = spoilValue(r, s.Values[i])
		}
	}
	if r.Intn(20) == 0 {
		s.Precision = one(r, noPrecisions()...)
	}
	return s
}

func wantsCheck(t *testing.T, what any, s api.Snapshot, e api.Errno, at int) {
	t.Helper()
	if got, i := snap.Check(s); got != e || i != at {
		t.Errorf("%v: Check tells %v at %d, want %v at %d: %v", what, got, i, e, at, s)
	}
}

// wantsMay holds a value alone against Check, and behind two others.
func wantsMay(t *testing.T, p int, v api.Value, may bool) {
	t.Helper()
	e := api.ErrRange
	if may {
		e = api.OK
	}
	wantsCheck(t, "alone", api.Snapshot{Precision: p, Values: []api.Value{v}}, e, 0)
	at := 2
	if may {
		at = 0
	}
	wantsCheck(t, "behind two", api.Snapshot{Precision: p, Values: []api.Value{counter("a", 1), counter("a", 1, "x", ""), v}}, e, at)
}

func wantsMerge(t *testing.T, what any, a, b, want api.Snapshot, e api.Errno) {
	t.Helper()
	if got, f := snap.Merge(a, b); f != e || !modelSame(got, want) {
		t.Errorf("%v: Merge of %v and %v: %v, %v, want %v, %v", what, a, b, got, f, want, e)
	}
}

// wantsRefused holds two snapshots against Merge in both orders.
func wantsRefused(t *testing.T, what any, a, b api.Snapshot, e api.Errno) {
	t.Helper()
	wantsMerge(t, what, a, b, api.Snapshot{}, e)
	wantsMerge(t, what, b, a, api.Snapshot{}, e)
}

// wantsBoth holds two snapshots against Merge in both orders.
func wantsBoth(t *testing.T, what any, a, b, want api.Snapshot) {
	t.Helper()
	wantsMerge(t, what, a, b, want, api.OK)
	wantsMerge(t, what, b, a, want, api.OK)
}

// P13.1: Check.

func TestCheckExamples(t *testing.T) {
	c, h, s := counter("c", 5), histogram("h", 8, 8, 1), summary("s", 1, 3, minus, 0)
	wantsCheck(t, "no values", of(), api.OK, 0)
	wantsCheck(t, "c, c", of(c, c), api.ErrTwice, 1)
	wantsCheck(t, "s, c", of(s, c), api.ErrOrder, 1)
	wantsCheck(t, "another help", of(c, helped(counter("c", 5, "x", "1"), "another")), api.ErrUnlike, 1)
	wantsCheck(t, "c with N 1", of(but(c, func(v *api.Value) { v.N = 1 })), api.ErrRange, 0)
	wantsCheck(t, "c with -1", of(but(c, func(v *api.Value) { v.Total = api.Int{Hi: -1, Lo: mostOf64} })), api.ErrRange, 0)
	wantsCheck(t, "all", of(c, h, s), api.OK, 0)
	for total, may := range map[uint64]bool{7: false, 8: true, 9: true, 10: false} {
		wantsMay(t, 2, histogram("h", total, 8, 1), may)
	}
	wantsMay(t, 2, but(h, func(v *api.Value) { v.N = 2 }), false)
	wantsMay(t, 2, summary("s", 0, minus, 0, 0), false)
	wantsMay(t, 2, summary("s", 1, 3, 0, minus), false)
	wantsMay(t, 2, s, true)
}

func TestCheckOfPrecisions(t *testing.T) {
	for p := 1; p <= api.MaxPrecision; p++ {
		wantsCheck(t, p, api.Snapshot{Precision: p, Values: []api.Value{counter("c", 1)}, Refused: mostOf64}, api.OK, 0)
	}
	for _, p := range noPrecisions() {
		wantsCheck(t, p, api.Snapshot{Precision: p}, api.ErrArg, 0)
		wantsCheck(t, p, api.Snapshot{Precision: p, Values: []api.Value{counter("a", 1), counter("", 1)}}, api.ErrArg, 0)
		wantsCheck(t, p, api.Snapshot{Precision: p, Values: counters(0, 257)}, api.ErrArg, 0)
	}
}

func TestCheckOfManyValues(t *testing.T) {
	wantsCheck(t, "as many as may be", of(counters(0, api.MaxInstruments)...), api.OK, 0)
	for _, n := range []int{257, 258, 512, 600} {
		wantsCheck(t, n, of(counters(0, n)...), api.ErrMany, api.MaxInstruments)
		wantsCheck(t, n, of(make([]api.Value, n)...), api.ErrMany, api.MaxInstruments)
	}
	last := counters(0, api.MaxInstruments)
	last[255].N = 1
	wantsCheck(t, "the last one", of(last...), api.ErrRange, 255)
}

func TestCheckOfDescriptions(t *testing.T) {
	many := func(n int) []api.Label {
		var out []api.Label
		for i := range n {
			out = append(out, api.Label{Name: named(i)})
		}
		return out
	}
	long := strings.Repeat("a", api.MaxText+1)
	for i, x := range []struct {
		change func(d *api.Desc)
		e      api.Errno
	}{
		{func(d *api.Desc) { d.Kind = api.None }, api.ErrKind},
		{func(d *api.Desc) { d.Kind = 4 }, api.ErrKind},
		{func(d *api.Desc) { d.Kind = -1 }, api.ErrKind},
		{func(d *api.Desc) { d.Kind = 1<<32 + 1 }, api.ErrKind},
		{func(d *api.Desc) { d.Name = "" }, api.ErrName},
		{func(d *api.Desc) { d.Name = "x_count" }, api.ErrName},
		{func(d *api.Desc) { d.Help = long }, api.ErrBytes},
		{func(d *api.Desc) { d.Help = "\xff" }, api.ErrUtf},
		{func(d *api.Desc) { d.Labels = many(17) }, api.ErrMany},
		{func(d *api.Desc) { d.Labels = labels("le", "1") }, api.ErrName},
		{func(d *api.Desc) { d.Labels = labels("x", long) }, api.ErrBytes},
		{func(d *api.Desc) { d.Labels = labels("x", "\xff") }, api.ErrUtf},
		{func(d *api.Desc) { d.Labels = labels("x", "1", "x", "2") }, api.ErrTwice},
		{func(d *api.Desc) { d.Labels = labels("y", "1", "x", "2") }, api.ErrOrder},
		{func(d *api.Desc) { d.Labels = many(16) }, api.OK},
		{func(d *api.Desc) { d.Help = long[1:] }, api.OK},
	} {
		v := counter("c", 1)
		x.change(&v.Desc)
		at := 1
		if x.e == api.OK {
			at = 0
		}
		wantsCheck(t, i, of(v), x.e, 0)
		wantsCheck(t, i, of(counter("a", 1), v), x.e, at)
		// What is wrong with a description is told ahead of what is wrong with what it holds.
		if v.N = 1; x.e != api.OK {
			wantsCheck(t, i, of(v), x.e, 0)
		}
	}
}

func TestCheckOfCounters(t *testing.T) {
	for total, may := range map[api.Int]bool{
		{}: true, {Lo: 1}: true, {Lo: mostOf64}: true, {Hi: 1}: true, {Hi: 1 << 62}: true, greatest: true,
		{Hi: -1, Lo: mostOf64}: false, {Hi: -1}: false, {Hi: math.MinInt64}: false, {Hi: math.MinInt64, Lo: 1}: false,
	} {
		wantsMay(t, 2, but(counter("c", 0), func(v *api.Value) { v.Total = total }), may)
	}
	wantsMay(t, 2, but(counter("c", 1), func(v *api.Value) { v.Counts = []api.Count{} }), true)
	for _, n := range []uint64{0, 1, mostOf64} {
		wantsMay(t, 2, but(counter("c", 5), func(v *api.Value) { v.N = n }), n == 0)
		wantsMay(t, 2, but(counter("c", 5), func(v *api.Value) { v.Counts = counts(5, n) }), false)
	}
	wantsFloatsPlain(t, counter("c", 5))
}

// wantsFloatsPlain holds a value to have no float but 0, without a sign.
func wantsFloatsPlain(t *testing.T, v api.Value) {
	t.Helper()
	for _, x := range []float64{0, minus, 1, -1, 5e-324, nan, inf, -inf} {
		wantsMay(t, 2, but(v, func(v *api.Value) { v.Sum = x }), plain(x))
		wantsMay(t, 2, but(v, func(v *api.Value) { v.Min = x }), plain(x))
		wantsMay(t, 2, but(v, func(v *api.Value) { v.Max = x }), plain(x))
	}
}

func TestCheckOfHistograms(t *testing.T) {
	wantsFloatsPlain(t, histogram("h", 8, 8, 1))
	wantsFloatsPlain(t, histogram("h", 0))
	wantsMay(t, 2, but(histogram("h", 0), func(v *api.Value) { v.Counts = []api.Count{} }), true)
	for _, v := range []api.Value{
		histogram("h", 1), but(histogram("h", 0), func(v *api.Value) { v.N = 1 }), but(histogram("h", 0), func(v *api.Value) { v.Total.Hi = -1 }),
		but(histogram("h", 8, 8, 1), func(v *api.Value) { v.Total.Hi = 1 }), but(histogram("h", 8, 8, 1), func(v *api.Value) { v.Total.Hi = -1 }),
		// counts that may not be: in no order, twice, none of a bucket, beyond the buckets, more than 2^63 - 1
		histogram("h", 4, 3, 1, 1, 1), histogram("h", 2, 1, 1, 1, 1), histogram("h", 0, 1, 0), histogram("h", 1, 1, 1, 2, 0),
		histogram("h", 0, 248, 1), histogram("h", 0, 1<<32+1, 1), histogram("h", 0, mostOf64, 1), histogram("h", 0, 0, 1<<63), histogram("h", 0, 0, mostOf63, 1, 1),
		histogram("h", 0, 0, mostOf64, 1, 1), histogram("h", 1, 0, mostOf64, 1, 2),
	} {
		wantsMay(t, 2, v, false)
	}
	for _, n := range []uint64{0, 2, 4, 1<<32 + 3, 1<<63 + 3, mostOf64} {
		wantsMay(t, 2, but(histogram("h", 10, 1, 2, 8, 1), func(v *api.Value) { v.N = n }), false)
	}
	// The same counts have another range of totals, and other buckets, by another precision.
	wantsMay(t, 1, histogram("h", 23, 7, 1), false)
	wantsMay(t, 1, histogram("h", 15, 7, 1), true)
	wantsMay(t, 2, histogram("h", 15, 7, 1), false)
	wantsMay(t, 1, histogram("h", 0, 126, 1), false)
	wantsMay(t, 14, histogram("h", 16384, 16384, 1), true)
}

// TestTotalsOfHistograms holds the least and the greatest total that counts may come to, and those beside them.
func TestTotalsOfHistograms(t *testing.T) {
	r := rand.New(rand.NewSource(131))
	var l []api.Value
	last := uint64(bucket.Length(2) - 1)
	for _, c := range [][]uint64{{0, 1}, {0, mostOf63}, {1, 2, 8, 1}, {last, 1}, {last, mostOf63}, {0, 1, last, mostOf63 - 1}, {last - 1, 1 << 62, last, 1<<62 - 1}, {}} {
		l = append(l, histogram("h", 0, c...))
	}
	for range 300 {
		l = append(l, fill(r, 2, api.Value{Desc: api.Desc{Kind: api.Histogram, Name: "h"}}))
	}
	for _, v := range l {
		for _, side := range []func(p, i int) (int64, api.Errno){bucket.Low, bucket.High} {
			sum := new(big.Int)
			for _, c := range v.Counts {
				x, _ := side(2, c.Index)
				sum.Add(sum, new(big.Int).Mul(big.NewInt(x), new(big.Int).SetUint64(c.N)))
			}
			for _, by := range []int64{-2, -1, 0, 1, 2} {
				v.Total, _ = narrow(new(big.Int).Add(sum, big.NewInt(by)))
				wantsMay(t, 2, v, modelHolds(2, v))
			}
		}
	}
}

func TestCheckOfSummaries(t *testing.T) {
	for n, may := range map[uint64]bool{1: true, 2: true, 1<<63 - 2: true, 1<<63 - 1: true, 1 << 63: false, 1<<63 + 1: false, mostOf64: false} {
		wantsMay(t, 2, summary("s", n, 3, 1, 2), may)
		wantsMay(t, 2, summary("s", n, 0, 0, 0), may)
	}
	wantsFloatsPlain(t, summary("s", 0, 0, 0, 0))
	for _, x := range []float64{0, minus, 1, -1, 5e-324, mostFloat, -mostFloat, 0x1p1000, nan, inf, -inf} {
		wantsMay(t, 2, summary("s", 1, x, -1, 1), finite(x))
		for _, y := range []float64{0, minus, 5e-324, -5e-324, 1, mostFloat, -mostFloat, nan, inf, -inf} {
			wantsMay(t, 2, summary("s", 1, 0, x, y), finite(x) && finite(y) && key(x) <= key(y))
		}
	}
	for _, n := range []uint64{0, 1} {
		v := summary("s", n, 0, 0, 0)
		wantsMay(t, 2, but(v, func(v *api.Value) { v.Counts = []api.Count{} }), true)
		wantsMay(t, 2, but(v, func(v *api.Value) { v.Counts = counts(0, n) }), false)
		wantsMay(t, 2, but(v, func(v *api.Value) { v.Total.Lo = 1 }), false)
		wantsMay(t, 2, but(v, func(v *api.Value) { v.Total.Hi = 1 }), false)
		wantsMay(t, 2, but(v, func(v *api.Value) { v.Total.Hi = -1 }), false)
	}
}

func TestCheckTellsTheFirstError(t *testing.T) {
	c, x := counter("c", 1), counter("c", 1, "x", "1")
	odd := func(v api.Value) api.Value { return but(v, func(v *api.Value) { v.N = 1 }) }
	kind := func(v api.Value) api.Value { return but(v, func(v *api.Value) { v.Desc.Kind = 4 }) }
	for i, w := range []struct {
		s  api.Snapshot
		e  api.Errno
		at int
	}{
		{of(c, odd(c)), api.ErrRange, 1},
		{of(x, odd(c)), api.ErrRange, 1},
		{of(c, odd(helped(x, "another"))), api.ErrRange, 1},
		{of(c, kind(odd(c))), api.ErrKind, 1},
		{of(c, helped(c, "another")), api.ErrTwice, 1},
		{of(x, helped(c, "another")), api.ErrOrder, 1},
		{of(c, c, odd(c)), api.ErrTwice, 1},
		{of(x, c, odd(c)), api.ErrOrder, 1},
		{of(c, helped(x, "another"), odd(c)), api.ErrUnlike, 1},
		{of(odd(c), kind(c)), api.ErrRange, 0},
		{of(c, x, c), api.ErrOrder, 2},
		{of(counter("b", 1), c, x, x), api.ErrTwice, 3},
		// One that stands between does not hide that a series was there: the order does not let it be.
		{of(c, counter("d", 1), c), api.ErrOrder, 2},
		{of(c, but(x, func(v *api.Value) { v.Desc.Kind, v.Total = api.Histogram, api.Int{} })), api.ErrUnlike, 1},
		{of(c, but(x, func(v *api.Value) { v.Desc.Kind, v.Total = api.Summary, api.Int{} })), api.ErrUnlike, 1},
		{of(c, x, helped(counter("d", 1), "another")), api.OK, 0},
		{of(helped(c, "h"), helped(x, "h"), helped(counter("c", 1, "x", "2"), "H")), api.ErrUnlike, 2},
	} {
		wantsCheck(t, i, w.s, w.e, w.at)
	}
}

func TestCheck(t *testing.T) {
	r := rand.New(rand.NewSource(132))
	seen := map[api.Errno]int{}
	for range 20000 {
		s := anySnapshot(r)
		e, at := modelCheck(s)
		seen[e]++
		wantsCheck(t, "any", s, e, at)
	}
	for _, e := range []api.Errno{api.OK, api.ErrArg, api.ErrRange, api.ErrKind, api.ErrName, api.ErrUtf, api.ErrBytes, api.ErrTwice, api.ErrOrder, api.ErrUnlike} {
		if seen[e] < 20 {
			t.Errorf("only %d snapshots of %v", seen[e], e)
		}
	}
}

// P13.2: Merge.

func TestMergeExamples(t *testing.T) {
	c, s := counter("c", 5), summary("s", 2, 3, 1, 2)
	wantsBoth(t, "c and c", of(c), of(c), of(counter("c", 10)))
	wantsBoth(t, "c and s", of(c), of(s), of(c, s))
	wantsBoth(t, "histograms", of(histogram("h", 8, 8, 1)), of(histogram("h", 2, 1, 2)), of(histogram("h", 10, 1, 2, 8, 1)))
	wantsBoth(t, "a summary of nothing", of(summary("s", 0, 0, 0, 0)), of(summary("s", 1, minus, minus, minus)), of(summary("s", 1, minus, minus, minus)))
	wantsRefused(t, "kinds", of(counter("x", 1)), of(histogram("x", 0)), api.ErrUnlike)
	big := but(counter("c", 0), func(v *api.Value) { v.Total.Hi = 1 << 62 })
	wantsRefused(t, "two of 2^126", of(big), of(big), api.ErrMany)
	far := of(summary("s", 1, 0x1p1023, 0, 0))
	wantsRefused(t, "two of 2^1023", far, far, api.ErrRange)
}

func TestMergeOfWhatMayNotBe(t *testing.T) {
	c := counter("c", 1)
	wrong := map[api.Errno]api.Snapshot{
		api.ErrArg: {}, api.ErrMany: of(counters(0, 257)...), api.ErrRange: of(c, but(counter("d", 1), func(v *api.Value) { v.N = 1 })),
		api.ErrTwice: of(c, c), api.ErrOrder: of(counter("d", 1), c), api.ErrUnlike: of(c, helped(counter("c", 1, "x", ""), "another")),
		api.ErrKind: of(api.Value{}), api.ErrName: of(counter("", 1)), api.ErrUtf: of(helped(c, "\xff")), api.ErrBytes: of(helped(c, strings.Repeat("a", 1025))),
	}
	for e, a := range wrong {
		wantsRefused(t, "one is wrong", a, of(c), e)
		// Another precision, and too many refused, are told behind what is wrong with one of them.
		a.Refused = mostOf64
		wantsRefused(t, "one is wrong", a, api.Snapshot{Precision: 3, Refused: 1}, e)
		for f, b := range wrong {
			wantsMerge(t, "both are wrong", a, b, api.Snapshot{}, e)
			wantsMerge(t, "both are wrong", b, a, api.Snapshot{}, f)
		}
	}
}

func TestMergeOfUnlike(t *testing.T) {
	c, x, y := counter("c", 1), counter("c", 1, "x", "1"), counter("c", 1, "x", "2")
	a, z := counter("a", 1), counter("z", 1)
	for i, w := range [][2]api.Snapshot{
		{of(c), {Precision: 3, Values: []api.Value{c}}},
		{of(), {Precision: 1}},
		{of(c), of(helped(c, "another"))},
		{of(c), of(helped(x, "another"))},
		{of(a, x, z), of(a, helped(y, "another"), z)},
		{of(a, c, x, y, z), of(helped(counter("c", 1, "x", "3"), "another"))},
		{of(a, c, x, y, z), of(helped(counter("c", 1, "x", "11"), "another"))},
		{of(c, y), of(helped(x, "another"))},
		{of(histogram("c", 0)), of(c)},
		{of(histogram("c", 0)), of(x)},
		{of(summary("c", 0, 0, 0, 0)), of(x)},
		{of(summary("c", 0, 0, 0, 0)), of(histogram("c", 0))},
	} {
		wantsRefused(t, i, w[0], w[1], api.ErrUnlike)
	}
	h := helped(counter("cc", 1), "another")
	wantsBoth(t, "another name", of(c), of(h), of(c, h))
	wantsBoth(t, "another name between", of(c, x), of(counter("b", 1), h), of(counter("b", 1), c, x, h))
}

func TestMergeOfMany(t *testing.T) {
	all := func(l ...[]api.Value) api.Snapshot { return of(slices.Concat(l...)...) }
	wantsBoth(t, "256 and none", all(counters(0, 256)), of(), all(counters(0, 256)))
	wantsBoth(t, "128 and 128", all(counters(0, 128)), all(counters(128, 128)), all(counters(0, 128), counters(128, 128)))
	wantsRefused(t, "129 and 128", all(counters(0, 129)), all(counters(129, 128)), api.ErrMany)
	wantsRefused(t, "256 and one ahead", all(counters(1, 256)), all(counters(0, 1)), api.ErrMany)
	wantsRefused(t, "256 and one behind", all(counters(0, 256)), all(counters(256, 1)), api.ErrMany)
	wantsRefused(t, "256 and 256 others", all(counters(0, 256)), all(counters(256, 256)), api.ErrMany)
	twice := counters(0, 256)
	for i := range twice {
		twice[i].Total.Lo *= 2
	}
	wantsBoth(t, "256 and the same", all(counters(0, 256)), all(counters(0, 256)), all(twice))
	var even, odd []api.Value
	for i, v := range counters(0, 256) {
		if i%2 == 0 {
			even = append(even, v)
		} else {
			odd = append(odd, v)
		}
	}
	wantsBoth(t, "by turns", all(even), all(odd), all(counters(0, 256)))
}

func TestMergeOfGreatTotals(t *testing.T) {
	total := func(hi int64, lo uint64) api.Snapshot {
		return of(but(counter("c", 0), func(v *api.Value) { v.Total = api.Int{Hi: hi, Lo: lo} }))
	}
	wantsBoth(t, "carried", total(0, mostOf64), total(0, 1), total(1, 0))
	wantsBoth(t, "2^127 - 1", total(1<<62, 0), total(1<<62-1, mostOf64), total(mostOf63, mostOf64))
	wantsBoth(t, "2^127 - 1 and 0", total(mostOf63, mostOf64), total(0, 0), total(mostOf63, mostOf64))
	wantsRefused(t, "2^127", total(mostOf63, mostOf64), total(0, 1), api.ErrMany)
	wantsRefused(t, "2^127, carried", total(mostOf63, 1<<63), total(0, 1<<63), api.ErrMany)
	wantsRefused(t, "2^128 - 2", total(mostOf63, mostOf64), total(mostOf63, mostOf64), api.ErrMany)
}

func TestMergeOfGreatNumbers(t *testing.T) {
	h := func(n uint64) api.Snapshot { return of(histogram("h", 0, 0, n)) }
	s := func(n uint64) api.Snapshot { return of(summary("s", n, 0, 0, 0)) }
	for _, kind := range []func(n uint64) api.Snapshot{h, s} {
		wantsBoth(t, "2^63 - 1", kind(1<<62), kind(1<<62-1), kind(mostOf63))
		wantsBoth(t, "2^63 - 1", kind(mostOf63-1), kind(1), kind(mostOf63))
		wantsRefused(t, "2^63", kind(1<<62), kind(1<<62), api.ErrMany)
		wantsRefused(t, "2^63", kind(mostOf63), kind(1), api.ErrMany)
		wantsRefused(t, "2^64 - 2", kind(mostOf63), kind(mostOf63), api.ErrMany)
	}
	// Of another bucket too it is N that is too great.
	wantsRefused(t, "buckets", h(mostOf63), of(histogram("h", 1, 1, 1)), api.ErrMany)
	// The greatest sum that a histogram can have is far below 2^127.
	last := bucket.Length(2) - 1
	greatest, _ := narrow(new(big.Int).Mul(big.NewInt(mostOf63), big.NewInt(mostOf63-1)))
	far := but(histogram("h", 0, uint64(last), mostOf63-1), func(v *api.Value) { v.Total = greatest })
	more, _ := narrow(new(big.Int).Mul(big.NewInt(mostOf63), big.NewInt(mostOf63)))
	wantsBoth(t, "greatest values", of(far), of(histogram("h", mostOf63, uint64(last), 1)), of(but(far, func(v *api.Value) {
		v.Total, v.N, v.Counts = more, mostOf63, counts(uint64(last), mostOf63)
	})))
}

func TestMergeOfSummaries(t *testing.T) {
	s := func(n uint64, sum, least, most float64) api.Snapshot { return of(summary("s", n, sum, least, most)) }
	none := s(0, 0, 0, 0)
	wantsBoth(t, "of nothing", none, none, none)
	for _, x := range []float64{0, minus, 1, -1, mostFloat, -mostFloat, 5e-324} {
		wantsBoth(t, "with nothing", none, s(3, x, -1, 1), s(3, x, -1, 1))
		wantsBoth(t, "with nothing", none, s(3, 0, x, x), s(3, 0, x, x))
	}
	for i, w := range [][3]api.Snapshot{
		{s(1, minus, minus, minus), s(1, minus, minus, minus), s(2, minus, minus, minus)},
		{s(1, minus, minus, minus), s(1, 0, 0, 0), s(2, 0, minus, 0)},
		{s(1, 1, 0, 0), s(1, 2, minus, minus), s(2, 3, minus, 0)},
		{s(1, 0.1, 0.1, 0.1), s(1, 0.2, 0.2, 0.2), s(2, 0.30000000000000004, 0.1, 0.2)},
		{s(1, 5, -1, 1), s(2, -5, -2, 2), s(3, 0, -2, 2)},
		{s(1, 5, -1, 3), s(2, 5, -2, 2), s(3, 10, -2, 3)},
		{s(1, 1e16, 0, 0), s(2, 1, 0, 0), s(3, 1e16, 0, 0)},
		// The half of what the greatest float's last bit is worth takes the sum beyond it; what is less does not.
		{s(1, mostFloat, 0, 0), s(1, math.Nextafter(0x1p970, 0), 0, 0), s(2, mostFloat, 0, 0)},
		{s(1, -mostFloat, 0, 0), s(1, -math.Nextafter(0x1p970, 0), 0, 0), s(2, -mostFloat, 0, 0)},
		{s(1, mostFloat, 0, 0), s(1, -mostFloat, 0, 0), s(2, 0, 0, 0)},
		{s(1, 0, -mostFloat, mostFloat), s(1, 0, mostFloat, mostFloat), s(2, 0, -mostFloat, mostFloat)},
	} {
		wantsBoth(t, i, w[0], w[1], w[2])
	}
	wantsRefused(t, "beyond", s(1, mostFloat, 0, 0), s(1, 0x1p970, 0, 0), api.ErrRange)
	wantsRefused(t, "beyond, below 0", s(1, -mostFloat, 0, 0), s(1, -0x1p970, 0, 0), api.ErrRange)
	wantsRefused(t, "twice the greatest", s(1, mostFloat, 0, 0), s(1, mostFloat, 0, 0), api.ErrRange)
	wantsRefused(t, "too many, and beyond", s(mostOf63, mostFloat, 0, 0), s(1, mostFloat, 0, 0), api.ErrMany)
}

func TestMergeOfRefused(t *testing.T) {
	with := func(n uint64, l ...api.Value) api.Snapshot {
		return api.Snapshot{Precision: 2, Values: l, Refused: n}
	}
	c := counter("c", 1)
	wantsBoth(t, "the sum", with(3, c), with(4), with(7, c))
	wantsBoth(t, "as many as may be", with(mostOf64), with(0, c), with(mostOf64, c))
	wantsBoth(t, "as many as may be", with(1<<63), with(1<<63-1), with(mostOf64))
	wantsRefused(t, "too many", with(mostOf64), with(1), api.ErrMany)
	wantsRefused(t, "too many", with(1<<63), with(1<<63), api.ErrMany)
	wantsRefused(t, "too many", with(mostOf64), with(mostOf64), api.ErrMany)
}

func TestMergeTellsTheFirstError(t *testing.T) {
	far := summary("s", 1, mostFloat, 0, 0)
	much := but(counter("t", 0), func(v *api.Value) { v.Total = greatest })
	early := but(counter("b", 0), func(v *api.Value) { v.Total = greatest })
	refused := func(s api.Snapshot) api.Snapshot { s.Refused = mostOf64; return s }
	wantsRefused(t, "a Sum ahead of a Total", refused(of(far, much)), refused(of(far, much)), api.ErrRange)
	wantsRefused(t, "a Total ahead of a Sum", of(early, far), of(early, far), api.ErrMany)
	wantsRefused(t, "a Sum ahead of Refused", refused(of(far)), refused(of(far)), api.ErrRange)
	wantsRefused(t, "unlike behind a Sum", of(far, counter("z", 1)), of(far, helped(counter("z", 1), "another")), api.ErrUnlike)
	wantsRefused(t, "precisions", refused(of(far)), refused(api.Snapshot{Precision: 3, Values: []api.Value{far}}), api.ErrUnlike)
	many := append(counters(0, 255), summary("z", 1, mostFloat, 0, 0))
	wantsRefused(t, "many ahead of a Sum", refused(of(many...)), refused(of(counter("a", 1), many[255])), api.ErrMany)
	wantsRefused(t, "unlike ahead of many", of(many...), of(counter("a", 1), helped(counter(named(7), 1), "another")), api.ErrUnlike)
	wantsRefused(t, "unlike ahead of many", of(counters(0, 256)...), of(counter("a", 1), helped(counter(named(255), 1), "another")), api.ErrUnlike)
	// A series that one alone has is as it is, however great.
	wantsBoth(t, "each alone", of(far), of(much), of(far, much))
}

func TestMerge(t *testing.T) {
	r := rand.New(rand.NewSource(133))
	seen := map[api.Errno]int{}
	for range 8000 {
		p := 1 + r.Intn(api.MaxPrecision)
		a, b := some(r, p), some(r, p)
		switch r.Intn(20) {
		case 0, 1:
			a = anySnapshot(r)
			b.Precision = a.Precision
		case 2:
			rehelp(b, one(r, "a", "b", "c"), "another")
		case 3:
			b = some(r, 2)
		}
		want, e := modelMerge(a, b)
		seen[e]++
		wantsMerge(t, "some", a, b, want, e)
	}
	for _, e := range []api.Errno{api.OK, api.ErrMany, api.ErrRange, api.ErrUnlike} {
		if seen[e] < 100 {
			t.Errorf("only %d merges of %v", seen[e], e)
		}
	}
	if seen[api.OK] < 2000 {
		t.Errorf("only %d merges that were told", seen[api.OK])
	}
}

// P13.3: Find and Quantile.

func TestFindExamples(t *testing.T) {
	s := of(counter("c", 5), histogram("h", 8, 8, 1), histogram("i", 0))
	if v, e := snap.Find(s, "c", nil); e != api.OK || !modelSameValue(v, counter("c", 5)) {
		t.Errorf("Find of c: %v, %v", v, e)
	}
	if v, e := snap.Find(s, "d", nil); e != api.ErrAbsent || !modelSameValue(v, api.Value{}) {
		t.Errorf("Find of d: %v, %v", v, e)
	}
	wantsQuantile(t, s, "h", nil, 1, 2, 9, api.OK)
	wantsQuantile(t, s, "c", nil, 1, 2, 0, api.ErrKind)
	wantsQuantile(t, s, "i", nil, 1, 2, 0, api.ErrEmpty)
	wantsQuantile(t, s, "d", nil, 1, 2, 0, api.ErrAbsent)
}

func wantsQuantile(t *testing.T, s api.Snapshot, name string, l []api.Label, num, den, want int64, e api.Errno) {
	t.Helper()
	if q, f := snap.Quantile(s, name, l, num, den); q != want || f != e {
		t.Errorf("Quantile %d / %d of %s: %d, %v, want %d, %v", num, den, name, q, f, want, e)
	}
}

func wantsFind(t *testing.T, s api.Snapshot, name string, l []api.Label) {
	t.Helper()
	want, e := api.Value{}, api.ErrAbsent
	for _, v := range s.Values {
		if series(v.Desc) == series(api.Desc{Name: name, Labels: l}) {
			want, e = v, api.OK
			break
		}
	}
	if got, f := snap.Find(s, name, l); f != e || !modelSameValue(got, want) {
		t.Errorf("Find of %s %v: %v, %v, want %v, %v", name, l, got, f, want, e)
	}
}

// TestFindOfAnySnapshot: of series that stand twice, in no order, and of names and labels that may not be.
func TestFindOfAnySnapshot(t *testing.T) {
	s := api.Snapshot{Precision: -1, Values: []api.Value{
		counter("c", 1, "x", "1"), counter("a", 2), counter("c", 3), counter("a", 4), counter("", 5), counter("c", 6, "y", "2", "x", "1"), counter("c", 7, "x", "1", "y", "2"),
		counter("c", 8, "x", "1", "x", "1"), counter("\xff", 9), {Desc: api.Desc{Name: "k"}, N: 10, Sum: nan}, counter("c", 11, "", ""), counter("cx", 12, "1", ""),
	}}
	for _, v := range s.Values {
		wantsFind(t, s, v.Desc.Name, v.Desc.Labels)
	}
	wantsFind(t, s, "c", []api.Label{})
	for _, name := range []string{"", "a", "b", "c", "A", "c ", "cx", "k", "\xff", "\xfe"} {
		for _, l := range [][]api.Label{nil, labels("x", "1"), labels("x", "2"), labels("x", ""), labels("y", "2"), labels("x", "1", "y", "2"), labels("y", "2", "x", "1"), labels("x", "1", "y", "2", "z", ""), labels("", ""), labels("1", "")} {
			wantsFind(t, s, name, l)
			wantsFind(t, api.Snapshot{}, name, l)
		}
	}
	r := rand.New(rand.NewSource(134))
	for range 2000 {
		s := anySnapshot(r)
		for _, other := range []api.Snapshot{s, some(r, 2)} {
			for _, v := range other.Values {
				wantsFind(t, s, v.Desc.Name, v.Desc.Labels)
			}
		}
	}
	far := counters(0, 700)
	wantsFind(t, of(far...), named(699), nil)
}

func TestQuantileTellsTheFirstError(t *testing.T) {
	h := histogram("h", 8, 8, 1)
	with := func(p int, l ...uint64) api.Snapshot {
		return api.Snapshot{Precision: p, Values: []api.Value{counter("c", 1), histogram("h", 0, l...), summary("s", 1, 0, 0, 0), {Desc: api.Desc{Kind: 5, Name: "k"}, Counts: h.Counts}}}
	}
	for _, p := range append(noPrecisions(), 2) {
		for _, den := range []int64{-1, 0, 2} {
			for _, name := range []string{"a", "H", ""} {
				wantsQuantile(t, with(p), name, nil, 1, den, 0, api.ErrAbsent)
			}
			wantsQuantile(t, with(p), "h", labels("x", ""), 1, den, 0, api.ErrAbsent)
			for _, name := range []string{"c", "s", "k"} {
				wantsQuantile(t, with(p), name, nil, 1, den, 0, api.ErrKind)
			}
			if p != 2 {
				wantsQuantile(t, with(p, 8, 1), "h", nil, 1, den, 0, api.ErrArg)
				wantsQuantile(t, with(p, 8, 0), "h", nil, 1, den, 0, api.ErrArg)
			}
		}
	}
	wantsQuantile(t, with(2, 248, 1), "h", nil, 1, 0, 0, api.ErrRange)
	wantsQuantile(t, with(2, 3, 1, 1, 1), "h", nil, 1, 0, 0, api.ErrOrder)
	wantsQuantile(t, with(2, 3, 0), "h", nil, 1, 0, 0, api.ErrEmpty)
	wantsQuantile(t, with(2, 3, 1<<63), "h", nil, 1, 0, 0, api.ErrMany)
	for _, w := range [][2]int64{{1, 0}, {0, 0}, {-1, 2}, {3, 2}, {1, -2}, {math.MinInt64, math.MinInt64}, {mostOf63, mostOf63 - 1}} {
		wantsQuantile(t, with(2, 8, 1), "h", nil, w[0], w[1], 0, api.ErrArg)
		wantsQuantile(t, with(2), "h", nil, w[0], w[1], 0, api.ErrArg)
	}
	wantsQuantile(t, with(2), "h", nil, 0, 1, 0, api.ErrEmpty)
}

// TestQuantileGoesByTheCounts: neither N nor the total counts, and the first of two of a series is asked.
func TestQuantileGoesByTheCounts(t *testing.T) {
	h := but(histogram("h", 0, 1, 2, 3, 1, 8, 4), func(v *api.Value) { v.N, v.Total, v.Sum = 1, api.Int{Hi: -5}, nan })
	s := of(counter("z", 1), h, histogram("h", 0, 0, 1))
	for _, w := range [][3]int64{{0, 1, 1}, {2, 7, 1}, {3, 7, 3}, {1, 2, 9}, {1, 1, 9}, {mostOf63, mostOf63, 9}} {
		wantsQuantile(t, s, "h", nil, w[0], w[1], w[2], api.OK)
	}
	s.Precision = 3
	wantsQuantile(t, s, "h", nil, 1, 1, 8, api.OK)
	r := rand.New(rand.NewSource(135))
	for range 3000 {
		s := anySnapshot(r)
		for _, v := range s.Values {
			first, _ := snap.Find(s, v.Desc.Name, v.Desc.Labels)
			num, den := r.Int63n(12)-1, r.Int63n(12)-1
			want, e := ranks.Quantile(s.Precision, first.Counts, num, den)
			if first.Desc.Kind != api.Histogram {
				want, e = 0, api.ErrKind
			}
			wantsQuantile(t, s, v.Desc.Name, v.Desc.Labels, num, den, want, e)
		}
	}
}

// P13.4: Same.

// changes tells what may be done to a snapshot of one value, each of which makes another one of it.
func changes() []func(s *api.Snapshot) {
	v := func(change func(v *api.Value)) func(s *api.Snapshot) {
		return func(s *api.Snapshot) { change(&s.Values[0]) }
	}
	all := []func(s *api.Snapshot){
		func(s *api.Snapshot) { s.Precision++ },
		func(s *api.Snapshot) { s.Refused++ },
		func(s *api.Snapshot) { s.Refused += 1 << 63 },
		func(s *api.Snapshot) { s.Values = nil },
		func(s *api.Snapshot) { s.Values = append(s.Values, s.Values[0]) },
		v(func(v *api.Value) { v.Desc.Kind++ }),
		v(func(v *api.Value) { v.Desc.Name += "a" }),
		v(func(v *api.Value) { v.Desc.Help += "a" }),
		v(func(v *api.Value) { v.Desc.Labels = nil }),
		v(func(v *api.Value) { v.Desc.Labels = v.Desc.Labels[:1] }),
		v(func(v *api.Value) { v.Desc.Labels = []api.Label{v.Desc.Labels[1], v.Desc.Labels[0]} }),
		v(func(v *api.Value) { v.Desc.Labels = append(slices.Clone(v.Desc.Labels), api.Label{}) }),
		v(func(v *api.Value) { v.Desc.Labels = labels("x", "1", "y", "3") }),
		v(func(v *api.Value) { v.Total.Lo++ }),
		v(func(v *api.Value) { v.Total.Hi++ }),
		v(func(v *api.Value) { v.N++ }),
		v(func(v *api.Value) { v.N += 1 << 63 }),
		v(func(v *api.Value) { v.Counts = nil }),
		v(func(v *api.Value) { v.Counts = counts(1, 2) }),
		v(func(v *api.Value) { v.Counts = counts(8, 1, 1, 2) }),
		v(func(v *api.Value) { v.Counts = counts(1, 2, 8, 2) }),
		v(func(v *api.Value) { v.Counts = counts(1, 2, 9, 1) }),
		v(func(v *api.Value) { v.Counts = counts(1, 2, 8, 1, 9, 0) }),
	}
	for _, x := range []float64{minus, nan, inf, 1, 5e-324} {
		all = append(all, v(func(v *api.Value) { v.Sum = x }), v(func(v *api.Value) { v.Min = x }), v(func(v *api.Value) { v.Max = x }))
	}
	return all
}

func wantsSame(t *testing.T, what any, a, b api.Snapshot, want bool) {
	t.Helper()
	if snap.Same(a, b) != want || snap.Same(b, a) != want {
		t.Errorf("%v: Same tells %v of %v and %v", what, !want, a, b)
	}
}

func TestSame(t *testing.T) {
	made := func() api.Snapshot {
		return of(api.Value{Desc: api.Desc{Kind: 5, Name: "\xff", Help: "h", Labels: labels("x", "1", "y", "2")}, Counts: counts(1, 2, 8, 1), Total: api.Int{Hi: -1, Lo: 3}, N: 7})
	}
	wantsSame(t, "made twice", made(), made(), true)
	for i, change := range changes() {
		a, b := made(), made()
		change(&a)
		wantsSame(t, i, a, made(), false)
		wantsSame(t, i, a, a, true)
		change(&b)
		wantsSame(t, i, a, b, true)
	}
	wantsSame(t, "the order", of(counter("a", 1), counter("b", 1)), of(counter("b", 1), counter("a", 1)), false)
	other := math.Float64frombits(math.Float64bits(nan) ^ 1<<63 ^ 4)
	wantsSame(t, "any NaN", of(summary("s", 1, nan, nan, nan)), of(summary("s", 1, other, other, other)), true)
	wantsSame(t, "infinities", of(summary("s", 1, inf, -inf, 0)), of(summary("s", 1, inf, inf, 0)), false)
	wantsSame(t, "nothing", api.Snapshot{}, api.Snapshot{Values: []api.Value{}}, true)
	wantsSame(t, "empty lists", of(counter("c", 1)), of(but(counter("c", 1), func(v *api.Value) { v.Counts, v.Desc.Labels = []api.Count{}, []api.Label{} })), true)
}

func TestSameOfAnySnapshots(t *testing.T) {
	for seed := range int64(2000) {
		a, b := anySnapshot(rand.New(rand.NewSource(seed))), anySnapshot(rand.New(rand.NewSource(seed)))
		wantsSame(t, seed, a, b, true)
		r := rand.New(rand.NewSource(-1 - seed))
		if len(b.Values) > 0 {
			b.Values[r.Intn(len(b.Values))] = spoilValue(r, b.Values[r.Intn(len(b.Values))])
		}
		wantsSame(t, seed, a, b, modelSame(a, b))
	}
}

// P13.5: what follows.

func TestWhatMergeTellsMayBe(t *testing.T) {
	r := rand.New(rand.NewSource(136))
	for range 5000 {
		p := 1 + r.Intn(api.MaxPrecision)
		a, b := some(r, p), some(r, p)
		s, e := snap.Merge(a, b)
		if e == api.OK {
			wantsCheck(t, "merged", s, api.OK, 0)
		}
		other, f := snap.Merge(b, a)
		if e != f || !snap.Same(s, other) {
			t.Errorf("Merge hangs on the order: %v, %v; %v, %v", s, e, other, f)
		}
		wantsBoth(t, "an empty one", a, api.Snapshot{Precision: p}, a)
		wantsBoth(t, "an empty one", api.Snapshot{Precision: p, Values: []api.Value{}}, b, b)
	}
}

// withoutSums tells a snapshot whose Sums are all 0.
func withoutSums(s api.Snapshot) api.Snapshot {
	s.Values = slices.Clone(s.Values)
	for i := range s.Values {
		s.Values[i].Sum = 0
	}
	return s
}

func TestMergeOfThree(t *testing.T) {
	r := rand.New(rand.NewSource(137))
	told := 0
	for range 4000 {
		p := 1 + r.Intn(4)
		a, b, c := some(r, p), some(r, p), some(r, p)
		ab, e1 := snap.Merge(a, b)
		left, e2 := snap.Merge(ab, c)
		bc, e3 := snap.Merge(b, c)
		right, e4 := snap.Merge(a, bc)
		if e1 != api.OK || e2 != api.OK || e3 != api.OK || e4 != api.OK {
			continue
		}
		told++
		if !modelSame(withoutSums(left), withoutSums(right)) {
			t.Errorf("three: %v, %v", left, right)
		}
	}
	if told < 1000 {
		t.Errorf("only %d were told", told)
	}
}

// recorded tells the snapshot of whole numbers that were recorded by a counter and a histogram.
func recorded(t *testing.T, p int, values []int64) api.Snapshot {
	t.Helper()
	c, h := counter("c", 0), histogram("h", 0)
	n := map[int]uint64{}
	for _, v := range values {
		i, e := bucket.Index(p, v)
		if e != api.OK {
			t.Fatal(e)
		}
		n[i]++
		h.N++
		h.Total, _ = narrow(new(big.Int).Add(whole(h.Total), big.NewInt(v)))
	}
	c.Total = h.Total
	for i, many := range n {
		h.Counts = append(h.Counts, api.Count{Index: i, N: many})
	}
	slices.SortFunc(h.Counts, func(x, y api.Count) int { return cmp.Compare(x.Index, y.Index) })
	return api.Snapshot{Precision: p, Values: []api.Value{c, h}}
}

func TestMergedIsWhatWasRecordedInBoth(t *testing.T) {
	r := rand.New(rand.NewSource(138))
	for range 1000 {
		p := 1 + r.Intn(api.MaxPrecision)
		values := make([]int64, r.Intn(20))
		for i := range values {
			values[i] = r.Int63() >> r.Intn(63)
		}
		part := r.Intn(len(values) + 1)
		all := recorded(t, p, values)
		wantsCheck(t, "recorded", all, api.OK, 0)
		wantsBoth(t, "recorded", recorded(t, p, values[:part]), recorded(t, p, values[part:]), all)
	}
}

// P13.6: R3, within values too.

// spacious tells a list as a piece of a longer one, whose other elements are odd.
func spacious[T any](l []T, odd T) []T {
	all := append(append([]T(nil), l...), odd, odd, odd)
	return all[:len(l)]
}

var (
	oddLabel = api.Label{Name: "odd", Value: "odd"}
	oddCount = api.Count{Index: 77, N: 77}
	oddValue = api.Value{Desc: api.Desc{Name: "odd"}, N: 77}
)

// roomy tells a snapshot of which every list has spare room.
func roomy(s api.Snapshot) api.Snapshot {
	s.Values = spacious(s.Values, oddValue)
	for i := range s.Values {
		v := &s.Values[i]
		v.Desc.Labels = spacious(v.Desc.Labels, oddLabel)
		v.Counts = spacious(v.Counts, oddCount)
	}
	return s
}

// deep tells a snapshot with all spare room, as lists of its own.
func deep(s api.Snapshot) api.Snapshot {
	s.Values = slices.Clone(s.Values[:cap(s.Values)])
	for i := range s.Values {
		v := &s.Values[i]
		v.Desc.Labels = slices.Clone(v.Desc.Labels[:cap(v.Desc.Labels)])
		v.Counts = slices.Clone(v.Counts[:cap(v.Counts)])
	}
	return s
}

func fillList[T any](l []T, x T) {
	l = l[:cap(l)]
	for i := range l {
		l[i] = x
	}
}

// spoilLists writes over the lists of a value, their spare room too.
func spoilLists(v api.Value) {
	fillList(v.Desc.Labels, api.Label{Name: "spoiled"})
	fillList(v.Counts, api.Count{Index: -9, N: 9})
}

// spoilAll writes over all lists of a snapshot, their spare room too.
func spoilAll(s api.Snapshot) {
	for _, v := range s.Values {
		spoilLists(v)
	}
	fillList(s.Values, api.Value{N: 99})
}

func TestArgumentsAreLeft(t *testing.T) {
	r := rand.New(rand.NewSource(139))
	for range 3000 {
		a, b := roomy(some(r, 2)), roomy(some(r, 2))
		if r.Intn(3) == 0 {
			b = roomy(anySnapshot(r))
		}
		l := spacious(labels("x", "1"), oddLabel)
		wasA, wasB, wasL := deep(a), deep(b), slices.Clone(l[:cap(l)])
		snap.Check(a)
		snap.Check(b)
		snap.Merge(a, b)
		snap.Merge(b, a)
		snap.Merge(a, a)
		snap.Same(a, b)
		for _, name := range []string{"a", "b", "c"} {
			snap.Find(a, name, l)
			snap.Find(b, name, l)
			snap.Quantile(a, name, l, 1, 2)
			snap.Quantile(b, name, l, 1, 2)
		}
		if !modelSame(deep(a), wasA) || !modelSame(deep(b), wasB) || !slices.Equal(l[:cap(l)], wasL) {
			t.Fatalf("changed: %v, %v, %v", a, b, l)
		}
	}
}

// TestMergeIsNewMemory: whoever writes over what was merged changes neither argument nor another answer, nor the other way round.
func TestMergeIsNewMemory(t *testing.T) {
	r := rand.New(rand.NewSource(140))
	for range 3000 {
		a, b := roomy(some(r, 2)), roomy(some(r, 2))
		switch r.Intn(6) {
		case 0:
			b = a
		case 1:
			b = api.Snapshot{Precision: 2}
		}
		wasA, wasB := deep(a), deep(b)
		first, e := snap.Merge(a, b)
		if e != api.OK {
			continue
		}
		want := deep(first)
		second, _ := snap.Merge(a, b)
		spoilAll(second)
		if !modelSame(deep(a), wasA) || !modelSame(deep(b), wasB) || !modelSame(deep(first), want) {
			t.Fatal("an answer shares memory with an argument, or with another answer")
		}
		spoilAll(a)
		spoilAll(b)
		if !modelSame(deep(first), want) {
			t.Fatal("an answer shares memory with an argument")
		}
	}
}

// TestNoTwoListsAreShared: values that have one list of labels, and of counts, in what is handed in have lists of their own in what is told.
func TestNoTwoListsAreShared(t *testing.T) {
	l, c := spacious(labels("x", "1"), oddLabel), spacious(counts(1, 2), oddCount)
	shared := func(names ...string) api.Snapshot {
		s := of()
		for _, name := range names {
			s.Values = append(s.Values, api.Value{Desc: api.Desc{Kind: api.Histogram, Name: name, Labels: l}, Total: api.Int{Lo: 2}, Counts: c, N: 2})
		}
		return s
	}
	for _, two := range [][2]api.Snapshot{{shared("a", "b"), shared("a", "c")}, {shared("a", "b", "c"), shared("a", "b", "c")}, {shared("a"), shared("b")}, {shared("a", "b", "c"), of()}} {
		s, e := snap.Merge(two[0], two[1])
		if e != api.OK {
			t.Fatal(e)
		}
		for i := range s.Values {
			was := deep(s)
			spoilLists(s.Values[i])
			for j, v := range deep(s).Values {
				if j != i && !modelSameValue(v, was.Values[j]) {
					t.Errorf("the values %d and %d share a list", i, j)
				}
			}
		}
	}
}

func TestFindIsNewMemory(t *testing.T) {
	r := rand.New(rand.NewSource(141))
	for range 1000 {
		s := roomy(anySnapshot(r))
		was := deep(s)
		for _, v := range s.Values {
			l := spacious(v.Desc.Labels, oddLabel)
			wasL := slices.Clone(l[:cap(l)])
			first, e := snap.Find(s, v.Desc.Name, l)
			if e != api.OK {
				t.Fatal(e)
			}
			want := deep(of(first))
			second, _ := snap.Find(s, v.Desc.Name, l)
			spoilLists(second)
			if !modelSame(deep(s), was) || !slices.Equal(l[:cap(l)], wasL) || !modelSame(deep(of(first)), want) {
				t.Fatal("an answer shares memory with an argument, or with another answer")
			}
		}
	}
}
