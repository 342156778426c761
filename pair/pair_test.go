package pair_test

import (
	"math"
	"math/big"
	"math/rand"
	"slices"
	"testing"

	"gnomon/pair"
	floats "gnomon/real"
)

const (
	greatest = 0x1p960                // that may be recorded
	least    = 0x1p-1074              // above 0
	normal   = 0x1p-1022              // the least one of 53 bits
	next     = 0x1p960 + 0x1p908      // the next one above the greatest that may be recorded
	tiny     = 0x1p-60                // far below the last bit of 1
	eps      = 0x1p-52                // the last bit of 1
	odd      = 0x1p53 - 1             // the greatest odd float
	largest  = math.MaxFloat64        // of all that are finite
	under    = 0x1p-1022 - 0x1p-1074  // the greatest one below normal
	across   = 0x1.fffffffffffffp-540 // all bits set
)

var (
	negativeZero = math.Copysign(0, -1)
	otherNaN     = math.Float64frombits(0xfff8000000000123)
	up, down     = math.Inf(1), math.Inf(-1)
)

// Sums, found with exact fractions that are rounded once: what IEEE 754 says, without the machine's own adding.

func exact(x float64) *big.Rat { return new(big.Rat).SetFloat64(x) }

func finite(x float64) bool { return !math.IsNaN(x) && !math.IsInf(x, 0) }

// plus tells a + b.
func plus(a, b float64) float64 {
	if finite(a) && finite(b) {
		return plusFinite(a, b)
	}
	opposite := math.IsInf(a, 0) && math.IsInf(b, 0) && math.Signbit(a) != math.Signbit(b)
	switch {
	case math.IsNaN(a) || math.IsNaN(b) || opposite:
		return math.NaN()
	case math.IsInf(a, 0):
		return a
	}
	return b
}

func plusFinite(a, b float64) float64 {
	if a == 0 && b == 0 && math.Signbit(a) && math.Signbit(b) {
		return negativeZero
	}
	sum, _ := new(big.Rat).Add(exact(a), exact(b)).Float64()
	return sum
}

// lost tells the loss of a and b, as the chapter says it.
func lost(a, b float64) float64 {
	t := plus(a, b)
	if math.Abs(a) >= math.Abs(b) {
		return plus(plus(a, -t), b)
	}
	return plus(plus(b, -t), a)
}

func wantAdd(p pair.Pair, x float64) pair.Pair {
	a, c := real(p), imag(p)
	return complex(plus(a, x), plus(c, lost(a, x)))
}

func wantMerge(p, q pair.Pair) pair.Pair {
	a, c, b, d := real(p), imag(p), real(q), imag(q)
	return complex(plus(a, b), plus(plus(c, d), lost(a, b)))
}

// alike tells whether two pairs have the same bits; all NaNs are alike.
func alike(p, q pair.Pair) bool {
	return floats.Same(real(p), real(q)) && floats.Same(imag(p), imag(q))
}

// edges tells the floats at which something may go otherwise, with both signs.
func edges() []float64 {
	all := []float64{math.NaN(), otherNaN}
	for _, x := range []float64{0, least, under, normal, tiny, across, 0.1, 0.3, 1 - eps/2, 1, 1 + eps, 3, odd, odd + 1, odd + 3, greatest, next, largest / 2, largest, up} {
		all = append(all, x, math.Copysign(x, -1))
	}
	return all
}

// some tells the edges that are most unlike each other.
func some() []float64 {
	return []float64{math.NaN(), up, down, largest, -largest, negativeZero, 0, 1, -1, eps / 2, -tiny, odd + 1, least}
}

// anything tells a float of any bits.
func anything(r *rand.Rand) float64 { return math.Float64frombits(r.Uint64()) }

// near tells a float whose exponent is not far from 0, so that two of them often share bits.
func near(r *rand.Rand) float64 {
	return math.Copysign(math.Ldexp(1+r.Float64(), r.Intn(121)-60), float64(r.Intn(2))-0.5)
}

// allowed tells a float that may be recorded, of any exponent.
func allowed(r *rand.Rand) float64 {
	for {
		if x := anything(r); floats.May(x) {
			return x
		}
	}
}

func checkAdd(t *testing.T, p pair.Pair, x float64) {
	t.Helper()
	if got, want := pair.Add(p, x), wantAdd(p, x); !alike(got, want) {
		t.Fatalf("Add(%v, %v) is %v, want %v", p, x, got, want)
	}
}

func checkMerge(t *testing.T, p, q pair.Pair) {
	t.Helper()
	if got, want := pair.Merge(p, q), wantMerge(p, q); !alike(got, want) {
		t.Fatalf("Merge(%v, %v) is %v, want %v", p, q, got, want)
	}
}

// P3.1

func TestExamples(t *testing.T) {
	of := func(l ...float64) pair.Pair { return pair.Of(l) }
	half := pair.Merge(of(odd+1), of(1))
	for _, c := range []struct {
		what             string
		p                pair.Pair
		sum, rest, total float64
	}{
		{"nothing", of(), 0, 0, 0},
		{"-0", of(negativeZero), 0, 0, 0},
		{"1, 2^-60", of(1, tiny), 1, tiny, 1},
		{"1, 2^-60, -1", of(1, tiny, -1), 0, tiny, tiny},
		{"2^960, 1, -2^960", of(greatest, 1, -greatest), 0, 1, 1},
		{"1, 2^960, -2^960", of(1, greatest, -greatest), 0, 1, 1},
		{"2^53 and 1", half, 0x1p53, 1, 0x1p53},
		{"and 1", pair.Merge(half, of(1)), 0x1p53, 2, 0x1p53 + 2},
		{"0.1, 0.2, -0.3", of(0.1, 0.2, -0.3), 0x1p-54, -0x1p-55, 2.7755575615628914e-17},
		{"0.1, 0.2", of(0.1, 0.2), 0.30000000000000004, -0x1p-55, 0.30000000000000004},
		{"1e16, 1, -1e16", of(1e16, 1, -1e16), 0, 1, 1},
		{"+Inf", of(up), up, math.NaN(), math.NaN()},
		{"-Inf", of(down), down, math.NaN(), math.NaN()},
	} {
		if !alike(c.p, complex(c.sum, c.rest)) {
			t.Errorf("%s: %v, want %v and %v", c.what, c.p, c.sum, c.rest)
		}
		if got := pair.Total(c.p); !floats.Same(got, c.total) {
			t.Errorf("%s: Total is %v, want %v", c.what, got, c.total)
		}
	}
}

func TestBeyondWhatMayBeRecorded(t *testing.T) {
	nan := math.NaN()
	for _, c := range []struct {
		p    pair.Pair
		x    float64
		want pair.Pair
	}{
		{complex(largest, 0), largest, complex(up, down)},
		{complex(-largest, 0), -largest, complex(down, up)},
		{complex(largest, up), largest, complex(up, nan)},
		{complex(largest, down), largest, complex(up, down)},
		{complex(largest, 5), -largest, complex(0, 5)},
		{complex(largest, 0), 1, complex(largest, 1)},
		{complex(1, 0), largest, complex(largest, 1)},
		{complex(up, 1), 1, complex(up, nan)},
		{complex(1, 1), down, complex(down, nan)},
		{complex(up, 1), down, complex(nan, nan)},
		{complex(up, 1), up, complex(up, nan)},
		{complex(nan, 1), 1, complex(nan, nan)},
		{complex(1, 1), nan, complex(nan, nan)},
		{complex(1, nan), 1, complex(2, nan)},
		{complex(1, up), 1, complex(2, up)},
		{complex(1, down), tiny, complex(1, down)},
		{complex(negativeZero, negativeZero), negativeZero, complex(negativeZero, 0)},
		{complex(negativeZero, 0), 0, 0},
		{complex(next, 0), 1, complex(next, 1)},
	} {
		if got := pair.Add(c.p, c.x); !alike(got, c.want) {
			t.Errorf("Add(%v, %v) is %v, want %v", c.p, c.x, got, c.want)
		}
		if got := pair.Merge(c.p, complex(c.x, 0)); !alike(got, c.want) {
			t.Errorf("Merge(%v, %v) is %v, want %v", c.p, c.x, got, c.want)
		}
	}
}

func TestAddAtTheEdges(t *testing.T) {
	for _, a := range edges() {
		for _, x := range edges() {
			for _, c := range some() {
				checkAdd(t, complex(a, c), x)
			}
		}
	}
}

func TestAddAnything(t *testing.T) {
	r := rand.New(rand.NewSource(31))
	for range 5000 {
		checkAdd(t, complex(anything(r), anything(r)), anything(r))
		checkAdd(t, complex(near(r), near(r)*eps), near(r))
	}
}

func TestMergeAtTheEdges(t *testing.T) {
	for _, a := range some() {
		for _, c := range some() {
			for _, b := range some() {
				for _, d := range some() {
					checkMerge(t, complex(a, c), complex(b, d))
				}
			}
		}
	}
}

func TestMergeAnything(t *testing.T) {
	r := rand.New(rand.NewSource(32))
	for range 5000 {
		checkMerge(t, complex(anything(r), anything(r)), complex(anything(r), anything(r)))
		checkMerge(t, complex(near(r), near(r)*eps), complex(near(r), near(r)*eps))
	}
}

// The rests come first, then the loss: here each other order tells another rest.
func TestMergeOrder(t *testing.T) {
	p, q := complex(1, 0x1p60), complex(tiny, -0x1p60)
	if got := pair.Merge(p, q); got != complex(1, tiny) {
		t.Errorf("Merge tells %v, want 1 and 2^-60", got)
	}
	p, q = complex(1, 0x1p-8), complex(tiny, 0x1p-62)
	if got := pair.Merge(p, q); got != complex(1, 0x1p-8+tiny) {
		t.Errorf("Merge tells %v, want 1 and 2^-8 + 2^-60", got)
	}
}

func TestTotal(t *testing.T) {
	for _, a := range edges() {
		for _, c := range edges() {
			if got, want := pair.Total(complex(a, c)), plus(a, c); !floats.Same(got, want) {
				t.Errorf("Total(%v, %v) is %v, want %v", a, c, got, want)
			}
		}
	}
}

func TestOf(t *testing.T) {
	r := rand.New(rand.NewSource(33))
	makers := []func(*rand.Rand) float64{anything, near, allowed}
	for n := range 60 {
		for _, one := range makers {
			l := listOf(r, n, one)
			var want pair.Pair
			for _, x := range l {
				want = wantAdd(want, x)
			}
			if got := pair.Of(l); !alike(got, want) {
				t.Fatalf("Of(%v) is %v, want %v", l, got, want)
			}
		}
	}
}

func TestOfLeavesItsList(t *testing.T) {
	all := []float64{1, tiny, -1, 7, 8}
	kept := slices.Clone(all)
	if got := pair.Of(all[:3]); got != complex(0, tiny) {
		t.Errorf("Of tells %v", got)
	}
	if !slices.Equal(all, kept) {
		t.Errorf("the list is %v now", all)
	}
	if got := pair.Of([]float64{}); !alike(got, 0) {
		t.Errorf("of no floats: %v", got)
	}
}

// The loss is what is exactly missing, wherever the sum is finite.
func TestNothingIsMissing(t *testing.T) {
	r := rand.New(rand.NewSource(34))
	check := func(a, b float64) {
		p := pair.Add(complex(a, 0), b)
		if !finite(a) || !finite(b) || !finite(real(p)) {
			return
		}
		got := new(big.Rat).Add(exact(real(p)), exact(imag(p)))
		if want := new(big.Rat).Add(exact(a), exact(b)); got.Cmp(want) != 0 {
			t.Fatalf("of %v and %v something is missing: %v", a, b, p)
		}
	}
	for _, a := range edges() {
		for _, b := range edges() {
			check(a, b)
		}
	}
	for range 5000 {
		check(anything(r), anything(r))
		check(near(r), near(r))
	}
}

// P3.2

func listOf(r *rand.Rand, n int, one func(*rand.Rand) float64) []float64 {
	l := make([]float64, n)
	for i := range l {
		l[i] = one(r)
	}
	return l
}

// exactSums tells the exact sum of floats, and that of their magnitudes.
func exactSums(l []float64) (sum, size *big.Rat) {
	// A whole number of the least floats: much quicker than fractions.
	whole, all := new(big.Int), new(big.Int)
	for _, x := range l {
		y, _ := new(big.Float).SetMantExp(big.NewFloat(x), 1074).Int(nil)
		whole.Add(whole, y)
		all.Add(all, y.Abs(y))
	}
	unit := new(big.Int).Lsh(big.NewInt(1), 1074)
	return new(big.Rat).SetFrac(whole, unit), new(big.Rat).SetFrac(all, unit)
}

// within tells whether |s - X| <= u |X| + factor m^2 u^2 A.
func within(s float64, all []float64, lists int, factor int64) bool {
	sum, size := exactSums(all)
	u, m := exact(0x1p-53), new(big.Rat).SetInt64(int64(len(all)+2*lists))
	mu := new(big.Rat).Mul(m, u)
	mu.Mul(mu, mu).Mul(mu, size).Mul(mu, new(big.Rat).SetInt64(factor))
	bound := new(big.Rat).Mul(u, new(big.Rat).Abs(sum))
	off := new(big.Rat).Sub(exact(s), sum)
	return off.Abs(off).Cmp(bound.Add(bound, mu)) <= 0
}

// merged merges pairs, one behind the other, into the empty pair.
func merged(l []pair.Pair) pair.Pair {
	var p pair.Pair
	for _, q := range l {
		p = pair.Merge(p, q)
	}
	return p
}

// pieces cuts a list at so many places; pieces may be empty.
func pieces[T any](r *rand.Rand, l []T, cuts int) [][]T {
	at := []int{0, len(l)}
	for range cuts {
		at = append(at, r.Intn(len(l)+1))
	}
	slices.Sort(at)
	var all [][]T
	for i := range len(at) - 1 {
		all = append(all, l[at[i]:at[i+1]])
	}
	return all
}

// undone tells floats, shuffled, that all but cancel each other: each with its opposite, but that a few little ones are left over.
func undone(r *rand.Rand, n int, one func(*rand.Rand) float64) []float64 {
	var l []float64
	for range n / 2 {
		x := one(r)
		l = append(l, x, -x)
	}
	for range n%2 + r.Intn(3) {
		l = append(l, one(r)*tiny)
	}
	r.Shuffle(len(l), func(i, j int) { l[i], l[j] = l[j], l[i] })
	return l
}

func big960(r *rand.Rand) float64 {
	return math.Copysign(greatest*(1-r.Float64()*eps*8), float64(r.Intn(2))-0.5)
}

func decimalOf(r *rand.Rand) float64 { return float64(r.Intn(2001)-1000) / 10 }

// lists calls check with all sorts of floats that may be recorded.
func lists(r *rand.Rand, check func(all []float64)) {
	makers := []func(*rand.Rand) float64{near, allowed, big960, decimalOf}
	for n := range 40 {
		for _, one := range makers {
			for range 6 {
				check(listOf(r, n, one))
				check(undone(r, n, one))
			}
		}
	}
	for _, one := range makers {
		check(listOf(r, 20000, one))
		check(undone(r, 20000, one))
	}
}

func TestBound(t *testing.T) {
	r := rand.New(rand.NewSource(35))
	lists(r, func(all []float64) {
		parts := pieces(r, all, r.Intn(6))
		var pairs []pair.Pair
		for _, l := range parts {
			pairs = append(pairs, pair.Of(l))
		}
		if s := pair.Total(merged(pairs)); !within(s, all, len(parts), 2) {
			t.Fatalf("of %v, in %d lists: %v", all, len(parts), s)
		}
	})
}

func TestBoundInGroups(t *testing.T) {
	r := rand.New(rand.NewSource(36))
	lists(r, func(all []float64) {
		parts := pieces(r, all, r.Intn(9))
		var groups []pair.Pair
		for _, group := range pieces(r, parts, r.Intn(4)) {
			var pairs []pair.Pair
			for _, l := range group {
				pairs = append(pairs, pair.Of(l))
			}
			groups = append(groups, merged(pairs))
		}
		if s := pair.Total(merged(groups)); !within(s, all, len(parts), 16) {
			t.Fatalf("of %v, in %d lists, %d groups: %v", all, len(parts), len(groups), s)
		}
	})
}

// The bound is narrow: a plain sum is beyond it.
func TestBoundIsNarrow(t *testing.T) {
	all := []float64{1e16, 1, -1e16}
	plain := 0.0
	for _, x := range all {
		plain += x
	}
	if within(plain, all, 1, 16) {
		t.Errorf("%v is within the bound", plain)
	}
}

// P3.3

// proper tells whether a float is no NaN, no infinity and not -0.
func proper(x float64) bool { return finite(x) && !(x == 0 && math.Signbit(x)) }

func checkProper(t *testing.T, p pair.Pair) {
	t.Helper()
	if !proper(real(p)) || !proper(imag(p)) || !proper(pair.Total(p)) {
		t.Fatalf("told: %v, whose Total is %v", p, pair.Total(p))
	}
}

func checkEmpty(t *testing.T, p pair.Pair) {
	t.Helper()
	if got := pair.Merge(0, p); !alike(got, p) {
		t.Fatalf("the empty pair and %v: %v", p, got)
	}
	if got := pair.Merge(p, 0); !alike(got, p) {
		t.Fatalf("%v and the empty pair: %v", p, got)
	}
}

func TestNothingImproperIsTold(t *testing.T) {
	r := rand.New(rand.NewSource(37))
	var before pair.Pair
	lists(r, func(all []float64) {
		p := pair.Of(all)
		both := pair.Merge(before, p)
		for _, q := range []pair.Pair{p, both, pair.Merge(p, before), pair.Add(both, negativeZero)} {
			checkProper(t, q)
			checkEmpty(t, q)
		}
		before = p
	})
	checkEmpty(t, 0)
}

func TestManyOfTheGreatest(t *testing.T) {
	l := make([]float64, 1<<20)
	for i := range l {
		l[i] = greatest
	}
	p := pair.Of(l)
	for range 12 {
		p = pair.Merge(p, p)
	}
	checkProper(t, p)
	if got := pair.Total(p); got != 0x1p992 {
		t.Errorf("2^32 times 2^960 is %v", got)
	}
}

func TestOneFloat(t *testing.T) {
	r := rand.New(rand.NewSource(38))
	check := func(x float64) {
		want := x
		if x == 0 {
			want = 0
		}
		if got := pair.Of([]float64{x}); !alike(got, complex(want, 0)) || !floats.Same(pair.Total(got), want) {
			t.Fatalf("Of(%v) is %v", x, got)
		}
	}
	for _, x := range edges() {
		if floats.May(x) {
			check(x)
		}
	}
	for range 20000 {
		check(allowed(r))
	}
}

// wholes tells n whole numbers whose magnitudes come to at most 2^53.
func wholes(r *rand.Rand, n int) []float64 {
	left := int64(1) << 53
	var l []float64
	for i := range n {
		x := left
		if i < n-1 {
			x = r.Int63n(left + 1)
		}
		left -= x
		l = append(l, math.Copysign(float64(x), float64(r.Intn(2))-0.5))
	}
	r.Shuffle(n, func(i, j int) { l[i], l[j] = l[j], l[i] })
	return l
}

func TestWholeNumbers(t *testing.T) {
	r := rand.New(rand.NewSource(39))
	for n := range 200 {
		all := wholes(r, n)
		sum := int64(0)
		for _, x := range all {
			sum += int64(x)
		}
		var pairs []pair.Pair
		for _, l := range pieces(r, all, r.Intn(n+1)) {
			pairs = append(pairs, pair.Of(l))
		}
		// Any two are merged, till one is left.
		for len(pairs) > 1 {
			i, last := r.Intn(len(pairs)-1), len(pairs)-1
			pairs[i] = pair.Merge(pairs[i], pairs[last])
			pairs = pairs[:last]
			r.Shuffle(last, func(i, j int) { pairs[i], pairs[j] = pairs[j], pairs[i] })
		}
		if got := pair.Total(pairs[0]); !floats.Same(got, float64(sum)) {
			t.Fatalf("of %v: %v, want %v", all, got, sum)
		}
	}
}
