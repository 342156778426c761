package ranks_test

import (
	"cmp"
	"math"
	"math/big"
	"math/rand"
	"slices"
	"testing"

	"gnomon/api"
	"gnomon/bucket"
	"gnomon/ranks"
)

const (
	most     = math.MaxUint64
	greatest = math.MaxInt64
	least    = math.MinInt64
)

// counts tells a list of counts, index and number by turns.
func counts(l ...uint64) []api.Count {
	var out []api.Count
	for i := 0; i < len(l); i += 2 {
		out = append(out, api.Count{Index: int(l[i]), N: l[i+1]})
	}
	return out
}

// example is the list of the chapter's examples.
func example() []api.Count { return counts(1, 2, 3, 1, 8, 4) }

// noPrecisions tells numbers that are no precision, those beside the least and the greatest one among them.
func noPrecisions() []int {
	return []int{0, -1, -2, api.MaxPrecision + 1, api.MaxPrecision + 2, 63, 64, 65, 1 << 32, 1<<32 + 3, math.MaxInt, math.MinInt}
}

// whole tells the sum of all N, with numbers of any length.
func whole(l []api.Count) *big.Int {
	sum := new(big.Int)
	for _, c := range l {
		sum.Add(sum, new(big.Int).SetUint64(c.N))
	}
	return sum
}

// round tells a number modulo 2^64.
func round(n *big.Int) uint64 {
	return new(big.Int).And(n, new(big.Int).SetUint64(most)).Uint64()
}

// someN tells a number that often lies at an edge.
func someN(r *rand.Rand) uint64 {
	edges := []uint64{0, 1, 2, 1<<62 - 1, 1 << 62, 1<<63 - 1, 1 << 63, most - 1, most}
	if r.Intn(2) == 0 {
		return edges[r.Intn(len(edges))]
	}
	return r.Uint64() >> r.Intn(64)
}

// anyCounts tells counts as nobody would make them: of any Index, in any order, the same ones again.
func anyCounts(r *rand.Rand) []api.Count {
	out := make([]api.Count, r.Intn(12))
	for i := range out {
		out[i] = api.Count{Index: r.Intn(9) - 3, N: someN(r)}
		if r.Intn(10) == 0 {
			out[i].Index = []int{math.MaxInt, math.MinInt, 1 << 40}[r.Intn(3)]
		}
	}
	return out
}

// someValues tells values of any number of bits, of which many are alike.
func someValues(r *rand.Rand, n int) []int64 {
	out := make([]int64, n)
	shift := r.Intn(63)
	for i := range out {
		out[i] = r.Int63() >> shift
		if r.Intn(4) == 0 {
			out[i] = []int64{0, 1, 2, 3, 1<<62 - 1, 1 << 62, greatest - 1, greatest}[r.Intn(8)]
		}
	}
	return out
}

// countsOf tells the counts of values.
func countsOf(t *testing.T, p int, values []int64) []api.Count {
	t.Helper()
	numbers := map[int]uint64{}
	for _, v := range values {
		i, e := bucket.Index(p, v)
		if e != api.OK {
			t.Fatalf("Index(%d, %d) is refused: %d", p, v, e)
		}
		numbers[i]++
	}
	var out []api.Count
	for i, n := range numbers {
		out = append(out, api.Count{Index: i, N: n})
	}
	slices.SortFunc(out, func(a, b api.Count) int { return cmp.Compare(a.Index, b.Index) })
	return out
}

// P5.1

func TestMayExamples(t *testing.T) {
	for _, c := range []struct {
		p    int
		l    []api.Count
		want api.Errno
	}{
		{2, example(), api.OK},
		{0, example(), api.ErrArg},
		{2, counts(3, 1, 1, 2), api.ErrOrder},
		{2, counts(1, 0), api.ErrEmpty},
		{2, counts(248, 1), api.ErrRange},
		{2, counts(0, 1<<63), api.ErrMany},
	} {
		if got := ranks.May(c.p, c.l); got != c.want {
			t.Errorf("May(%d, %v) is %d, want %d", c.p, c.l, got, c.want)
		}
	}
}

func TestMayAtTheEdges(t *testing.T) {
	for p := 1; p <= api.MaxPrecision; p++ {
		last := uint64(bucket.Length(p) - 1)
		for _, c := range []struct {
			l    []api.Count
			want api.Errno
		}{
			{nil, api.OK}, {[]api.Count{}, api.OK}, {counts(0, 1), api.OK}, {counts(last, 1), api.OK}, {counts(0, 1, last, 1), api.OK},
			{counts(last+1, 1), api.ErrRange}, {[]api.Count{{Index: -1, N: 1}}, api.ErrRange},
			{[]api.Count{{Index: math.MaxInt, N: 1}}, api.ErrRange}, {[]api.Count{{Index: math.MinInt, N: 1}}, api.ErrRange},
			{counts(0, 1, 0, 1), api.ErrOrder}, {counts(1, 1, 0, 1), api.ErrOrder}, {counts(last, 1, last, 1), api.ErrOrder}, {counts(0, 1, last, 1, 1, 1), api.ErrOrder},
			{counts(0, 0), api.ErrEmpty}, {counts(last, 0), api.ErrEmpty}, {counts(0, 1, last, 0), api.ErrEmpty},
			{counts(0, 1<<63-1), api.OK}, {counts(0, 1<<63), api.ErrMany}, {counts(0, most), api.ErrMany},
			{counts(0, 1<<62, 1, 1<<62-1), api.OK}, {counts(0, 1<<62, 1, 1<<62), api.ErrMany}, {counts(0, 1, last, 1<<63-2), api.OK}, {counts(0, 1<<63-1, last, 1), api.ErrMany},
			// What comes to 2^64 and more, and is little, or nothing, when it is brought round.
			{counts(0, most, 1, 1), api.ErrMany}, {counts(0, 1<<63, 1, 1<<63), api.ErrMany}, {counts(0, most, 1, 6), api.ErrMany}, {counts(0, 1<<63, 1, 1<<63, 2, 5), api.ErrMany},
			{counts(0, most, 1, most, 2, 2), api.ErrMany},
		} {
			if got := ranks.May(p, c.l); got != c.want {
				t.Errorf("May(%d, %v) is %d, want %d", p, c.l, got, c.want)
			}
		}
	}
}

// Of several errors the first one that the chapter names is told: the precision's, then those of the first count that has one, in their order; the sum's behind all.
func TestMayTellsTheFirstError(t *testing.T) {
	wrong := []api.Count{{Index: -1, N: 0}}
	for _, p := range noPrecisions() {
		for _, l := range [][]api.Count{nil, example(), wrong, counts(3, 1, 1, 2), counts(1, 0), counts(0, 1<<63)} {
			if got := ranks.May(p, l); got != api.ErrArg {
				t.Errorf("May(%d, %v) is %d, want ErrArg", p, l, got)
			}
		}
	}
	for _, c := range []struct {
		l    []api.Count
		want api.Errno
	}{
		{wrong, api.ErrRange},
		{[]api.Count{{Index: 5, N: 1}, {Index: -1, N: 0}}, api.ErrRange}, // it is out of order, and of nothing, too
		{counts(248, 0), api.ErrRange},
		{counts(5, 1, 5, 0), api.ErrOrder},
		{counts(5, 1, 3, 0), api.ErrOrder},
		{counts(5, 0, 3, 1), api.ErrEmpty}, // the earlier count's
		{counts(5, 0, 248, 1), api.ErrEmpty},
		{counts(5, 1, 3, 1, 248, 1), api.ErrOrder},
		{counts(5, 1, 248, 1, 3, 0), api.ErrRange},
		{counts(0, 1<<63, 248, 1), api.ErrRange}, // and the sum's behind all
		{counts(0, 1<<63, 0, 1), api.ErrOrder},
		{counts(0, 1<<63, 1, 0), api.ErrEmpty},
		{counts(0, most, 1, most, 2, 0), api.ErrEmpty},
	} {
		if got := ranks.May(2, c.l); got != c.want {
			t.Errorf("May(2, %v) is %d, want %d", c.l, got, c.want)
		}
	}
}

// wantMay tells the counts' error as the chapter says it.
func wantMay(p int, l []api.Count) api.Errno {
	for i, c := range l {
		switch {
		case c.Index < 0 || c.Index > bucket.Length(p)-1:
			return api.ErrRange
		case i > 0 && l[i-1].Index >= c.Index:
			return api.ErrOrder
		case c.N == 0:
			return api.ErrEmpty
		}
	}
	if whole(l).Cmp(big.NewInt(greatest)) > 0 {
		return api.ErrMany
	}
	return api.OK
}

func TestMay(t *testing.T) {
	r := rand.New(rand.NewSource(51))
	seen := map[api.Errno]int{}
	for range 20000 {
		l := anyCounts(r)
		if r.Intn(2) == 0 { // so that many are in order
			slices.SortFunc(l, func(a, b api.Count) int { return cmp.Compare(a.Index, b.Index) })
			l = slices.CompactFunc(l, func(a, b api.Count) bool { return a.Index == b.Index })
			l = slices.DeleteFunc(l, func(c api.Count) bool { return c.Index < 0 || c.Index > 200 })
		}
		got, want := ranks.May(2, l), wantMay(2, l)
		if got != want {
			t.Fatalf("May(2, %v) is %d, want %d", l, got, want)
		}
		seen[got]++
	}
	for _, e := range []api.Errno{api.OK, api.ErrRange, api.ErrOrder, api.ErrEmpty, api.ErrMany} {
		if seen[e] < 100 {
			t.Errorf("May told %d only %d times", e, seen[e])
		}
	}
}

// P5.2

func TestTotalExamples(t *testing.T) {
	for _, c := range []struct {
		l    []api.Count
		want uint64
	}{
		{example(), 7}, {nil, 0}, {[]api.Count{}, 0}, {counts(1, 0), 0}, {counts(5, 3, 5, 4, 1, 2), 9}, {[]api.Count{{Index: -7, N: 3}}, 3},
		{counts(0, 1<<62, 1, 1<<62-1), 1<<63 - 1}, {counts(0, 1<<62, 1, 1<<62), 1 << 63}, {counts(0, most), most}, {counts(0, most, 1, 1), 0}, {counts(9, most, 4, 5), 4}, {counts(0, most, 0, most, 0, most), most - 2},
	} {
		if got := ranks.Total(c.l); got != c.want {
			t.Errorf("Total(%v) is %d, want %d", c.l, got, c.want)
		}
	}
}

func TestTotal(t *testing.T) {
	r := rand.New(rand.NewSource(52))
	for range 5000 {
		l := anyCounts(r)
		if got, want := ranks.Total(l), round(whole(l)); got != want {
			t.Fatalf("Total(%v) is %d, want %d", l, got, want)
		}
	}
}

func TestMergeExamples(t *testing.T) {
	for _, c := range []struct{ a, b, want []api.Count }{
		{example(), counts(0, 1, 3, 2), counts(0, 1, 1, 2, 3, 3, 8, 4)},
		{counts(3, 1, 3, 2, 1, 0), nil, counts(3, 3)},
		{nil, counts(3, 1, 3, 2, 1, 0), counts(3, 3)},
		{nil, nil, nil}, {[]api.Count{}, []api.Count{}, nil},
		{example(), nil, example()}, {nil, example(), example()}, {example(), example(), counts(1, 4, 3, 2, 8, 8)},
		{counts(5, 1, 2, 1, 5, 1), counts(2, 7, 9, 1, 2, 7), counts(2, 15, 5, 2, 9, 1)},
		{[]api.Count{{Index: -1, N: 2}, {Index: math.MaxInt, N: 1}}, []api.Count{{Index: math.MinInt, N: 3}, {Index: 0, N: 1}}, []api.Count{{Index: math.MinInt, N: 3}, {Index: -1, N: 2}, {Index: 0, N: 1}, {Index: math.MaxInt, N: 1}}},
		// Sums of 2^63 - 1, 2^63, 2^64 - 1, 2^64, and beyond.
		{counts(3, 1<<62), counts(3, 1<<62-1), counts(3, 1<<63-1)}, {counts(3, 1<<62), counts(3, 1<<62), counts(3, 1<<63)}, {counts(3, most-1), counts(3, 1), counts(3, most)},
		{counts(3, most), counts(3, 1), nil}, {counts(3, most, 3, 1), nil, nil}, {counts(3, most, 4, 1), counts(3, 1, 3, 8), counts(3, 8, 4, 1)}, {counts(3, 1<<63, 2, 1), counts(3, 1<<63, 2, 1), counts(2, 2)},
		{counts(3, 0), counts(3, 0, 4, 0), nil},
	} {
		if got := ranks.Merge(c.a, c.b); !slices.Equal(got, c.want) {
			t.Errorf("Merge(%v, %v) is %v, want %v", c.a, c.b, got, c.want)
		}
	}
}

// checkMerge holds a merged list to what the chapter says of it, Index by Index.
func checkMerge(t *testing.T, a, b, got []api.Count) {
	t.Helper()
	all := slices.Concat(a, b)
	left := 0
	for at, c := range got {
		if at > 0 && got[at-1].Index >= c.Index {
			t.Fatalf("Merge(%v, %v) is %v: not by rising Index", a, b, got)
		}
	}
	for i, c := range all {
		same := slices.DeleteFunc(slices.Clone(all), func(x api.Count) bool { return x.Index != c.Index })
		want := round(whole(same))
		at := slices.IndexFunc(got, func(x api.Count) bool { return x.Index == c.Index })
		if want == 0 && at >= 0 || want != 0 && (at < 0 || got[at].N != want) {
			t.Fatalf("Merge(%v, %v) is %v: of %d want %d", a, b, got, c.Index, want)
		}
		first := slices.IndexFunc(all, func(x api.Count) bool { return x.Index == c.Index }) == i
		if want != 0 && first {
			left++
		}
	}
	if left != len(got) {
		t.Fatalf("Merge(%v, %v) is %v: want %d counts", a, b, got, left)
	}
}

func TestMerge(t *testing.T) {
	r := rand.New(rand.NewSource(53))
	for range 5000 {
		a, b := anyCounts(r), anyCounts(r)
		checkMerge(t, a, b, ranks.Merge(a, b))
	}
}

// P5.3

func TestRankExamples(t *testing.T) {
	for _, c := range []struct {
		n        uint64
		num, den int64
		want     uint64
		e        api.Errno
	}{
		{7, 1, 2, 4, api.OK}, {7, 0, 5, 1, api.OK}, {7, 3, 7, 3, api.OK}, {7, 5, 5, 7, api.OK}, {0, 1, 2, 0, api.ErrEmpty}, {7, 2, 1, 0, api.ErrArg}, {7, -1, 2, 0, api.ErrArg}, {7, 0, 0, 0, api.ErrArg},
		{most, greatest, greatest, most, api.OK},
		{3, 1, 2, 2, api.OK}, {3, 0, 1, 1, api.OK}, {3, 1, 1, 3, api.OK},
		{1, 0, 1, 1, api.OK}, {1, 1, 1, 1, api.OK}, {1, 1, greatest, 1, api.OK}, {1, greatest - 1, greatest, 1, api.OK}, {2, greatest - 1, greatest, 2, api.OK},
		{most, 0, 1, 1, api.OK}, {most, 1, 1, most, api.OK}, {most, 1, 2, 1 << 63, api.OK}, {most, 1, greatest, 3, api.OK}, {most - 1, 1, greatest, 2, api.OK}, {most, greatest - 1, greatest, most - 2, api.OK},
		{greatest, 1, greatest, 1, api.OK}, {greatest, greatest - 1, greatest, greatest - 1, api.OK}, {1 << 63, 1, greatest, 2, api.OK}, {1 << 63, 0, greatest, 1, api.OK},
		{100, 29, 100, 29, api.OK}, {10, 7, 10, 7, api.OK}, {1000, 999, 1000, 999, api.OK}, {1001, 999, 1000, 1000, api.OK},
	} {
		if got, e := ranks.Rank(c.n, c.num, c.den); got != c.want || e != c.e {
			t.Errorf("Rank(%d, %d, %d) is %d, %d, want %d, %d", c.n, c.num, c.den, got, e, c.want, c.e)
		}
	}
}

func TestRankRefuses(t *testing.T) {
	for _, n := range []uint64{0, 1, 7, greatest, 1 << 63, most} {
		for _, q := range [][2]int64{{0, 0}, {0, -1}, {-1, -1}, {-2, -1}, {1, 0}, {2, 1}, {-1, 1}, {-1, 2}, {3, 2}, {greatest, 1}, {greatest, greatest - 1}, {least, 1}, {0, least}, {least, least}, {-1, greatest}, {least, greatest}} {
			if got, e := ranks.Rank(n, q[0], q[1]); got != 0 || e != api.ErrArg {
				t.Errorf("Rank(%d, %d, %d) is %d, %d, want 0, ErrArg", n, q[0], q[1], got, e)
			}
		}
	}
	for _, q := range [][2]int64{{0, 1}, {1, 1}, {1, 2}, {greatest, greatest}, {0, greatest}} {
		if got, e := ranks.Rank(0, q[0], q[1]); got != 0 || e != api.ErrEmpty {
			t.Errorf("Rank(0, %d, %d) is %d, %d, want 0, ErrEmpty", q[0], q[1], got, e)
		}
	}
}

// wantRank tells the least whole number that is at least n num / den, and at least 1.
func wantRank(n uint64, num, den int64) uint64 {
	up := new(big.Int).Mul(new(big.Int).SetUint64(n), big.NewInt(num))
	up.Add(up, big.NewInt(den-1))
	return max(up.Div(up, big.NewInt(den)).Uint64(), 1)
}

func TestRank(t *testing.T) {
	r := rand.New(rand.NewSource(54))
	for range 20000 {
		n := max(someN(r), 1)
		den := max(r.Int63()>>r.Intn(63), 1)
		num := r.Int63n(den) + int64(r.Intn(2))
		if got, e := ranks.Rank(n, num, den); got != wantRank(n, num, den) || e != api.OK {
			t.Fatalf("Rank(%d, %d, %d) is %d, %d, want %d", n, num, den, got, e, wantRank(n, num, den))
		}
	}
	for n := uint64(1); n <= 30; n++ {
		for den := int64(1); den <= 30; den++ {
			for num := range den + 1 {
				if got, e := ranks.Rank(n, num, den); got != wantRank(n, num, den) || e != api.OK {
					t.Fatalf("Rank(%d, %d, %d) is %d, %d, want %d", n, num, den, got, e, wantRank(n, num, den))
				}
			}
		}
	}
}

// P5.4

func checkAt(t *testing.T, l []api.Count, rank uint64, want int) {
	t.Helper()
	if got, e := ranks.At(l, rank); got != want || e != api.OK {
		t.Errorf("At(%v, %d) is %d, %d, want %d", l, rank, got, e, want)
	}
}

func checkBeyond(t *testing.T, l []api.Count, rank uint64) {
	t.Helper()
	if got, e := ranks.At(l, rank); got != 0 || e != api.ErrRange {
		t.Errorf("At(%v, %d) is %d, %d, want 0, ErrRange", l, rank, got, e)
	}
}

func TestAtExamples(t *testing.T) {
	l := example()
	for rank, want := range map[uint64]int{1: 1, 2: 1, 3: 3, 4: 8, 5: 8, 7: 8} {
		checkAt(t, l, rank, want)
	}
	for _, rank := range []uint64{0, 8, 9, 1 << 63, most} {
		checkBeyond(t, l, rank)
	}
	for _, rank := range []uint64{0, 1, most} {
		checkBeyond(t, nil, rank)
		checkBeyond(t, []api.Count{}, rank)
		checkBeyond(t, counts(5, 0, 3, 0), rank)
	}
}

func TestAtOfOddCounts(t *testing.T) {
	odd := counts(9, 2, 4, 0, 4, 1, 9, 1, 0, 0)
	for rank, want := range map[uint64]int{1: 9, 2: 9, 3: 4, 4: 9} {
		checkAt(t, odd, rank, want)
	}
	checkBeyond(t, odd, 0)
	checkBeyond(t, odd, 5)
	checkAt(t, counts(6, 0, 5, 1), 1, 5)
	checkAt(t, []api.Count{{Index: -8, N: 1}, {Index: math.MinInt, N: 1}}, 1, -8)
	checkAt(t, []api.Count{{Index: -8, N: 1}, {Index: math.MinInt, N: 1}}, 2, math.MinInt)
}

// The sum is not brought round: what lies behind 2^64 - 1 values hides none of them.
func TestAtOfMany(t *testing.T) {
	l := counts(9, most, 4, 5)
	checkAt(t, l, 1, 9)
	checkAt(t, l, 4, 9)
	checkAt(t, l, 5, 9)
	checkAt(t, l, most, 9)
	halves := counts(1, 1<<63, 2, 1<<63, 3, 7)
	checkAt(t, halves, 1, 1)
	checkAt(t, halves, 1<<63, 1)
	checkAt(t, halves, 1<<63+1, 2)
	checkAt(t, halves, most, 2)
	sum := counts(1, 1<<63-1, 2, 1)
	checkAt(t, sum, 1<<63-1, 1)
	checkAt(t, sum, 1<<63, 2)
	checkBeyond(t, sum, 1<<63+1)
	checkBeyond(t, counts(1, most-1), most)
	checkAt(t, counts(1, most-1, 2, 5), most, 2)
	checkBeyond(t, l, 0)
}

func TestAt(t *testing.T) {
	r := rand.New(rand.NewSource(55))
	for range 20000 {
		l := anyCounts(r)
		rank := someN(r)
		if r.Intn(2) == 0 { // often just at a sum, or beside it
			rank = round(whole(l[:r.Intn(len(l)+1)])) + uint64(r.Intn(3)) - 1
		}
		at := -1
		for i := range l {
			if whole(l[:i+1]).Cmp(new(big.Int).SetUint64(rank)) >= 0 {
				at = i
				break
			}
		}
		if rank == 0 || at < 0 {
			checkBeyond(t, l, rank)
		} else {
			checkAt(t, l, rank, l[at].Index)
		}
	}
}

// P5.5

func TestQuantileExamples(t *testing.T) {
	top := counts(0, 1, 247, 1)
	for _, c := range []struct {
		l        []api.Count
		num, den int64
		want     int64
	}{
		{example(), 1, 2, 9}, {example(), 1, 7, 1}, {example(), 0, 1, 1}, {example(), 2, 7, 1}, {example(), 3, 7, 3}, {example(), 4, 7, 9}, {example(), 1, 1, 9}, {example(), greatest, greatest, 9}, {example(), 1, greatest, 1},
		{counts(22, 1), 1, 2, 111}, {counts(22, 1), 0, 1, 111}, {counts(22, 1), 1, 1, 111},
		{top, 1, 2, 0}, {top, 1, 1, greatest}, {top, greatest/2 + 1, greatest, greatest}, {top, greatest / 2, greatest, 0}, {counts(247, 1<<63-1), 1, 2, greatest},
		{counts(3, 1, 7, 1<<63-2), 1, greatest, 3}, {counts(3, 1, 7, 1<<63-2), 2, greatest, 7},
	} {
		if got, e := ranks.Quantile(2, c.l, c.num, c.den); got != c.want || e != api.OK {
			t.Errorf("Quantile(2, %v, %d, %d) is %d, %d, want %d", c.l, c.num, c.den, got, e, c.want)
		}
	}
	for p := 1; p <= api.MaxPrecision; p++ {
		last := counts(0, 1, uint64(bucket.Length(p)-1), 1)
		if got, e := ranks.Quantile(p, last, 1, 1); got != greatest || e != api.OK {
			t.Errorf("Quantile(%d, %v, 1, 1) is %d, %d", p, last, got, e)
		}
	}
}

func TestAtMostExamples(t *testing.T) {
	for _, c := range []struct {
		l    []api.Count
		v    int64
		want uint64
	}{
		{example(), 8, 3}, {example(), 9, 7}, {example(), -1, 0}, {example(), 0, 0}, {example(), 1, 2}, {example(), 2, 2}, {example(), 3, 3}, {example(), 4, 3}, {example(), greatest, 7}, {example(), least, 0},
		{nil, 5, 0}, {[]api.Count{}, greatest, 0}, {counts(0, 3), 0, 3}, {counts(0, 3), -1, 0},
		{counts(247, 5), greatest, 5}, {counts(247, 5), greatest - 1, 0}, {counts(246, 1, 247, 1<<63-2), greatest, 1<<63 - 1}, {counts(246, 1, 247, 1<<63-2), greatest - 1, 1},
	} {
		if got, e := ranks.AtMost(2, c.l, c.v); got != c.want || e != api.OK {
			t.Errorf("AtMost(2, %v, %d) is %d, %d, want %d", c.l, c.v, got, e, c.want)
		}
	}
}

func checkQuantileRefused(t *testing.T, p int, l []api.Count, num, den int64, want api.Errno) {
	t.Helper()
	if got, e := ranks.Quantile(p, l, num, den); got != 0 || e != want {
		t.Errorf("Quantile(%d, %v, %d, %d) is %d, %d, want 0, %d", p, l, num, den, got, e, want)
	}
}

// May's error comes ahead of Rank's, and of that ErrArg ahead of ErrEmpty.
func TestQuantileRefuses(t *testing.T) {
	for _, q := range [][2]int64{{1, 2}, {2, 1}, {-1, 1}, {0, 0}} {
		for _, p := range noPrecisions() {
			checkQuantileRefused(t, p, nil, q[0], q[1], api.ErrArg)
			checkQuantileRefused(t, p, counts(1, 0), q[0], q[1], api.ErrArg)
		}
		checkQuantileRefused(t, 2, counts(248, 1), q[0], q[1], api.ErrRange)
		checkQuantileRefused(t, 2, []api.Count{{Index: -1, N: 1}}, q[0], q[1], api.ErrRange)
		checkQuantileRefused(t, 2, counts(3, 1, 1, 2), q[0], q[1], api.ErrOrder)
		checkQuantileRefused(t, 2, counts(1, 0), q[0], q[1], api.ErrEmpty)
		checkQuantileRefused(t, 2, counts(0, 1<<63), q[0], q[1], api.ErrMany)
		checkQuantileRefused(t, 2, counts(0, most, 1, 1), q[0], q[1], api.ErrMany)
	}
	for _, q := range [][2]int64{{2, 1}, {-1, 2}, {0, 0}, {0, -1}, {greatest, 1}, {least, least}} {
		checkQuantileRefused(t, 2, example(), q[0], q[1], api.ErrArg)
		checkQuantileRefused(t, 2, nil, q[0], q[1], api.ErrArg)
	}
	checkQuantileRefused(t, 2, nil, 1, 2, api.ErrEmpty)
	checkQuantileRefused(t, 2, []api.Count{}, 0, 1, api.ErrEmpty)
}

func TestAtMostRefuses(t *testing.T) {
	refuse := func(p int, l []api.Count, want api.Errno) {
		t.Helper()
		for _, v := range []int64{least, -1, 0, 3, greatest} {
			if got, e := ranks.AtMost(p, l, v); got != 0 || e != want {
				t.Errorf("AtMost(%d, %v, %d) is %d, %d, want 0, %d", p, l, v, got, e, want)
			}
		}
	}
	for _, p := range noPrecisions() {
		refuse(p, example(), api.ErrArg)
		refuse(p, nil, api.ErrArg)
		refuse(p, counts(1, 0), api.ErrArg)
	}
	refuse(2, counts(1, 1, 248, 1), api.ErrRange)
	refuse(2, counts(1, 1, 1, 1), api.ErrOrder)
	refuse(2, counts(1, 1, 2, 0), api.ErrEmpty)
	refuse(2, counts(1, 1<<62, 2, 1<<62), api.ErrMany)
	refuse(2, counts(1, most, 2, 3), api.ErrMany)
}

// P5.6

func checkQuantile(t *testing.T, p int, values []int64, num, den int64) {
	t.Helper()
	l := countsOf(t, p, values)
	values = slices.Sorted(slices.Values(values))
	rank := wantRank(uint64(len(values)), num, den)
	v := values[rank-1]
	q, e := ranks.Quantile(p, l, num, den)
	if e != api.OK || q < v || q-v > v>>p {
		t.Fatalf("Quantile(%d, .., %d, %d) of %v is %d, %d, the value is %d", p, num, den, values, q, e, v)
	}
	if n, e := ranks.AtMost(p, l, q); n < rank || e != api.OK {
		t.Fatalf("AtMost(%d, .., %d) of %v is %d, %d, the rank is %d", p, q, values, n, e, rank)
	}
}

func checkAtMost(t *testing.T, p int, values []int64, v int64) {
	t.Helper()
	want := uint64(0)
	for _, x := range values {
		i, _ := bucket.Index(p, x)
		if high, _ := bucket.High(p, i); high <= v {
			want++
		}
	}
	if got, e := ranks.AtMost(p, countsOf(t, p, values), v); got != want || e != api.OK {
		t.Fatalf("AtMost(%d, .., %d) of %v is %d, %d, want %d", p, v, values, got, e, want)
	}
}

func TestQuantilesOfValues(t *testing.T) {
	r := rand.New(rand.NewSource(56))
	for p := 1; p <= api.MaxPrecision; p++ {
		for range 150 {
			values := someValues(r, 1+r.Intn(40))
			n := int64(len(values))
			for _, q := range [][2]int64{{0, 1}, {1, 1}, {1, 2}, {99, 100}, {1, n}, {n - 1, n}, {greatest - 1, greatest}, {1, greatest}, {r.Int63n(1000), 1000}} {
				checkQuantile(t, p, values, q[0], q[1])
			}
			for _, v := range []int64{-1, 0, greatest, values[0], values[0] - 1, values[n-1] + values[n-1]>>p/2} {
				checkAtMost(t, p, values, v)
			}
		}
	}
}

// P5.7

func TestMergeOfWhatMayBe(t *testing.T) {
	r := rand.New(rand.NewSource(57))
	for range 2000 {
		p := 1 + r.Intn(api.MaxPrecision)
		a, b := countsOf(t, p, someValues(r, r.Intn(40))), countsOf(t, p, someValues(r, r.Intn(40)))
		merged := ranks.Merge(a, b)
		if e := ranks.May(p, merged); e != api.OK {
			t.Fatalf("Merge(%v, %v) may not be: %d", a, b, e)
		}
		if ranks.Total(merged) != ranks.Total(a)+ranks.Total(b) {
			t.Fatalf("Merge(%v, %v) is %v", a, b, merged)
		}
		if other := ranks.Merge(b, a); !slices.Equal(merged, other) {
			t.Fatalf("Merge(%v, %v) is %v, the other way round %v", a, b, merged, other)
		}
		for range 5 {
			v := r.Int63()>>r.Intn(63) - 1
			all, _ := ranks.AtMost(p, merged, v)
			ofA, _ := ranks.AtMost(p, a, v)
			ofB, _ := ranks.AtMost(p, b, v)
			if all != ofA+ofB {
				t.Fatalf("AtMost(%d, .., %d) of %v and %v is %d and %d, merged %d", p, v, a, b, ofA, ofB, all)
			}
		}
	}
}

func TestMergeAtTheGreatestTotal(t *testing.T) {
	a, b := counts(1, 1<<62, 5, 3), counts(0, 1, 1, 1<<62-5)
	merged := ranks.Merge(a, b)
	if !slices.Equal(merged, counts(0, 1, 1, 1<<63-5, 5, 3)) || ranks.Total(merged) != 1<<63-1 || ranks.May(2, merged) != api.OK {
		t.Errorf("Merge(%v, %v) is %v", a, b, merged)
	}
	if n, e := ranks.AtMost(2, merged, 1); n != 1<<63-4 || e != api.OK {
		t.Errorf("AtMost(2, %v, 1) is %d, %d", merged, n, e)
	}
	if got := ranks.Merge(merged, counts(6, 1)); ranks.Total(got) != 1<<63 || ranks.May(2, got) != api.ErrMany {
		t.Errorf("beyond 2^63 - 1: %v", got)
	}
}

func TestMergeDoesNotHangOnTheOrder(t *testing.T) {
	r := rand.New(rand.NewSource(58))
	for range 3000 {
		a, b := anyCounts(r), anyCounts(r)
		if x, y := ranks.Merge(a, b), ranks.Merge(b, a); !slices.Equal(x, y) {
			t.Fatalf("Merge(%v, %v) is %v, the other way round %v", a, b, x, y)
		}
	}
}

// P5.8

// spacious tells a copy of a list with spare room behind it, in which something stands; and all of that room.
func spacious(l []api.Count) (list, room []api.Count) {
	room = append(slices.Clone(l), counts(77, 7, 78, 8, 79, 9, 80, 10, 81, 11, 82, 12)...)
	return room[:len(l)], room
}

func TestArgumentsAreLeft(t *testing.T) {
	for _, given := range [][]api.Count{nil, example(), counts(8, 1, 3, 2, 8, 5, 1, 0), counts(3, most, 3, 1)} {
		a, roomA := spacious(given)
		b, roomB := spacious(counts(9, 1, 0, 1, 3, 1))
		wantA, wantB := slices.Clone(roomA), slices.Clone(roomB)
		ranks.May(2, a)
		ranks.Total(a)
		ranks.Merge(a, b)
		ranks.Merge(b, a)
		ranks.Merge(a, nil)
		ranks.Merge(a, a)
		ranks.At(a, 3)
		ranks.Quantile(2, a, 1, 2)
		ranks.AtMost(2, a, 5)
		if !slices.Equal(roomA, wantA) || !slices.Equal(roomB, wantB) {
			t.Errorf("of %v: %v, %v", given, roomA, roomB)
		}
	}
}

func TestMergeIsNewMemory(t *testing.T) {
	for _, given := range [][]api.Count{example(), counts(3, 1), counts(8, 1, 3, 2, 8, 5, 1, 0)} {
		a, roomA := spacious(given)
		b, roomB := spacious(nil)
		wantA, wantB := slices.Clone(roomA), slices.Clone(roomB)
		for _, got := range [][]api.Count{ranks.Merge(a, nil), ranks.Merge(nil, a), ranks.Merge(a, b), ranks.Merge(b, a), ranks.Merge(a, a)} {
			got = got[:cap(got)]
			for i := range got {
				got[i] = api.Count{Index: -5, N: 55}
			}
		}
		if !slices.Equal(roomA, wantA) || !slices.Equal(roomB, wantB) {
			t.Errorf("of %v: writing into an answer wrote into an argument: %v, %v", given, roomA, roomB)
		}
		first := ranks.Merge(a, b)
		want := slices.Clone(first)
		for i := range roomA {
			roomA[i] = api.Count{Index: -6, N: 66}
		}
		if !slices.Equal(first, want) {
			t.Errorf("of %v: an answer kept an argument: %v", given, first)
		}
	}
}
