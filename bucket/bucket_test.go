package bucket_test

import (
	"math"
	"math/big"
	"math/rand"
	"testing"

	"gnomon/api"
	"gnomon/bucket"
)

const (
	greatest = math.MaxInt64
	least    = math.MinInt64
)

// noPrecisions tells numbers that are no precision, those beside the least and the greatest one among them.
func noPrecisions() []int {
	return []int{0, -1, -2, -63, -64, api.MaxPrecision + 1, api.MaxPrecision + 2, 31, 32, 62, 63, 64, 65, 1 << 32, 1<<32 + 3, math.MaxInt, math.MinInt}
}

// power tells 2^e.
func power(e int) *big.Int { return new(big.Int).Exp(big.NewInt(2), big.NewInt(int64(e)), nil) }

// wantLength tells 2^p (64 - p).
func wantLength(p int) int {
	return int(new(big.Int).Mul(power(p), big.NewInt(int64(64-p))).Int64())
}

// wantIndex tells the bucket of a value as the chapter says it, with numbers of any length.
func wantIndex(p int, v int64) int {
	value := big.NewInt(v)
	if value.Cmp(power(p)) < 0 {
		return int(v)
	}
	e := 0
	for power(e+1).Cmp(value) <= 0 {
		e++
	}
	first := new(big.Int).Mul(big.NewInt(int64(e-p)), power(p))
	return int(first.Add(first, new(big.Int).Div(value, power(e-p))).Int64())
}

// edges tells the values at and beside powers of two, and beside 2^p shares of these.
func edges(p int) []int64 {
	all := []int64{0, greatest, greatest - 1}
	for e := range 63 {
		at := int64(1) << e
		share := int64(1) << max(e-p, 0)
		for _, v := range []int64{at - 1, at, at + 1, at - share, at + share, at + share - 1, at - share - 1, at + at/2, at + at/3} {
			if v >= 0 {
				all = append(all, v)
			}
		}
	}
	return all
}

// anything tells a value of any number of bits.
func anything(r *rand.Rand) int64 { return r.Int63() >> r.Intn(63) }

func index(t *testing.T, p int, v int64) int {
	t.Helper()
	i, e := bucket.Index(p, v)
	if e != api.OK {
		t.Fatalf("Index(%d, %d) is refused: %d", p, v, e)
	}
	return i
}

func bounds(t *testing.T, p, i int) (int64, int64) {
	t.Helper()
	low, e := bucket.Low(p, i)
	high, f := bucket.High(p, i)
	if e != api.OK || f != api.OK {
		t.Fatalf("Low, High(%d, %d) are refused: %d, %d", p, i, e, f)
	}
	return low, high
}

// P4.1

func TestLength(t *testing.T) {
	for _, c := range []struct{ p, want int }{{1, 126}, {2, 248}, {3, 488}, {14, 819200}, {0, 0}, {15, 0}} {
		if got := bucket.Length(c.p); got != c.want {
			t.Errorf("Length(%d) is %d, want %d", c.p, got, c.want)
		}
	}
	for p := 1; p <= api.MaxPrecision; p++ {
		if got, want := bucket.Length(p), wantLength(p); got != want {
			t.Errorf("Length(%d) is %d, want %d", p, got, want)
		}
	}
}

func TestLengthOfNoPrecision(t *testing.T) {
	for _, p := range noPrecisions() {
		if got := bucket.Length(p); got != 0 {
			t.Errorf("Length(%d) is %d, want 0", p, got)
		}
	}
}

// P4.2

func TestIndexExamples(t *testing.T) {
	for _, c := range []struct {
		p    int
		v    int64
		want int
	}{
		{3, 0, 0}, {3, 7, 7}, {3, 8, 8}, {3, 15, 15}, {3, 16, 16}, {3, 17, 16}, {3, 18, 17}, {3, 31, 23}, {3, 32, 24}, {3, 35, 24}, {3, 36, 25},
		{3, greatest, 487}, {1, 2, 2}, {1, 3, 3}, {1, 4, 4}, {1, 5, 4}, {1, 6, 5},
		{2, 100, 22}, {1, 0, 0}, {1, 1, 1}, {1, greatest, 125}, {14, 0, 0}, {14, 16383, 16383}, {14, 16384, 16384}, {14, 32767, 32767}, {14, 32768, 32768}, {14, 32769, 32768}, {14, 32770, 32769},
		{14, greatest, 819199}, {14, 1 << 62, 819200 - 16384}, {1, 1 << 62, 124}, {1, 1<<62 - 1, 123},
	} {
		if got, e := bucket.Index(c.p, c.v); got != c.want || e != api.OK {
			t.Errorf("Index(%d, %d) is %d, %d, want %d", c.p, c.v, got, e, c.want)
		}
	}
}

func TestIndex(t *testing.T) {
	r := rand.New(rand.NewSource(42))
	for p := 1; p <= api.MaxPrecision; p++ {
		values := edges(p)
		for v := range int64(300) {
			values = append(values, v)
		}
		for range 1000 {
			values = append(values, anything(r))
		}
		for _, v := range values {
			if got, want := index(t, p, v), wantIndex(p, v); got != want {
				t.Fatalf("Index(%d, %d) is %d, want %d", p, v, got, want)
			}
		}
	}
}

func TestIndexRefuses(t *testing.T) {
	below := []int64{-1, -2, -8, least, least + 1}
	for p := 1; p <= api.MaxPrecision; p++ {
		for _, v := range below {
			if got, e := bucket.Index(p, v); got != 0 || e != api.ErrRange {
				t.Errorf("Index(%d, %d) is %d, %d, want 0, ErrRange", p, v, got, e)
			}
		}
	}
	for _, p := range noPrecisions() {
		for _, v := range append(below, 0, 1, 100, greatest) {
			if got, e := bucket.Index(p, v); got != 0 || e != api.ErrArg {
				t.Errorf("Index(%d, %d) is %d, %d, want 0, ErrArg", p, v, got, e)
			}
		}
	}
}

// P4.3

func TestBoundsExamples(t *testing.T) {
	for _, c := range []struct {
		p, i      int
		low, high int64
	}{
		{3, 16, 16, 17}, {3, 24, 32, 35}, {3, 0, 0, 0}, {3, 7, 7, 7}, {3, 8, 8, 8}, {3, 15, 15, 15}, {3, 17, 18, 19}, {3, 23, 30, 31}, {3, 487, 15 << 59, greatest},
		{2, 22, 96, 111}, {1, 0, 0, 0}, {1, 1, 1, 1}, {1, 3, 3, 3}, {1, 4, 4, 5}, {1, 5, 6, 7}, {1, 124, 1 << 62, 3<<61 - 1}, {1, 125, 3 << 61, greatest},
		{14, 5, 5, 5}, {14, 32767, 32767, 32767}, {14, 32768, 32768, 32769}, {14, 819199, 32767 << 48, greatest},
	} {
		if low, e := bucket.Low(c.p, c.i); low != c.low || e != api.OK {
			t.Errorf("Low(%d, %d) is %d, %d, want %d", c.p, c.i, low, e, c.low)
		}
		if high, e := bucket.High(c.p, c.i); high != c.high || e != api.OK {
			t.Errorf("High(%d, %d) is %d, %d, want %d", c.p, c.i, high, e, c.high)
		}
	}
}

// Small values are gone through one by one: nothing but Index says where a bucket begins and ends.
func TestBoundsOfSmallValues(t *testing.T) {
	for p := 1; p <= api.MaxPrecision; p++ {
		first := int64(0)
		for v := int64(1); v <= 1<<17; v++ {
			i := index(t, p, v-1)
			if index(t, p, v) == i {
				continue
			}
			if low, high := bounds(t, p, i); low != first || high != v-1 {
				t.Fatalf("the bucket %d of %d is %d to %d, want %d to %d", i, p, low, high, first, v-1)
			}
			first = v
		}
	}
}

func checkRefused(t *testing.T, p, i int, want api.Errno) {
	t.Helper()
	if low, e := bucket.Low(p, i); low != 0 || e != want {
		t.Errorf("Low(%d, %d) is %d, %d, want 0, %d", p, i, low, e, want)
	}
	if high, e := bucket.High(p, i); high != 0 || e != want {
		t.Errorf("High(%d, %d) is %d, %d, want 0, %d", p, i, high, e, want)
	}
}

func TestBoundsRefuse(t *testing.T) {
	for p := 1; p <= api.MaxPrecision; p++ {
		for _, i := range []int{-1, -2, wantLength(p), wantLength(p) + 1, math.MaxInt, math.MinInt, 1 << 32} {
			checkRefused(t, p, i, api.ErrRange)
		}
	}
	for _, p := range noPrecisions() {
		for _, i := range []int{-1, 0, 1, 100, 819199, 819200, math.MaxInt, math.MinInt} {
			checkRefused(t, p, i, api.ErrArg)
		}
	}
}

// P4.4

// Each bucket of each precision, from the first one to the last.
func TestRow(t *testing.T) {
	for p := 1; p <= api.MaxPrecision; p++ {
		next := int64(0)
		last := bucket.Length(p) - 1
		for i := range last + 1 {
			low, high := bounds(t, p, i)
			if low != next || high < low || high-low > low>>p {
				t.Fatalf("the bucket %d of %d is %d to %d, the one ahead ends below %d", i, p, low, high, next)
			}
			if a, b := index(t, p, low), index(t, p, high); a != i || b != i {
				t.Fatalf("%d and %d fall into the buckets %d and %d of %d, want %d", low, high, a, b, p, i)
			}
			if i < last {
				next = high + 1
			} else if high != greatest {
				t.Errorf("the buckets of %d end at %d", p, high)
			}
		}
	}
}

func TestValuesInTheirBuckets(t *testing.T) {
	r := rand.New(rand.NewSource(44))
	for p := 1; p <= api.MaxPrecision; p++ {
		values := edges(p)
		for range 5000 {
			values = append(values, anything(r))
		}
		for _, v := range values {
			low, high := bounds(t, p, index(t, p, v))
			if v < low || v > high {
				t.Fatalf("%d is not among %d to %d, its bucket's of %d", v, low, high, p)
			}
			if high-v > v>>p {
				t.Fatalf("%d falls into a bucket of %d that goes on to %d", v, p, high)
			}
		}
	}
}
