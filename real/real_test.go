package real_test

import (
	"math"
	"math/big"
	"math/rand"
	"regexp"
	"slices"
	"strconv"
	"strings"
	"testing"

	"gnomon/api"
	"gnomon/real"
)

var (
	negativeZero = math.Copysign(0, -1)
	otherNaN     = math.Float64frombits(0xfff8000000000123)
)

// The digits, found as the chapter says them: with exact fractions, and from one digit on.

// ten tells 10^e.
func ten(e int) *big.Rat {
	power := new(big.Int).Exp(big.NewInt(10), big.NewInt(int64(max(e, -e))), nil)
	if e < 0 {
		return new(big.Rat).SetFrac(big.NewInt(1), power)
	}
	return new(big.Rat).SetInt(power)
}

// half tells what lies in the middle between x and the next float above (or below) it; behind the greatest one 2^1024 stands in that one's place.
func half(x float64, towards float64) *big.Rat {
	next := new(big.Rat)
	if y := math.Nextafter(x, towards); math.IsInf(y, 1) {
		next.SetInt(new(big.Int).Lsh(big.NewInt(1), 1024))
	} else {
		next.SetFloat64(y)
	}
	sum := new(big.Rat).Add(next, new(big.Rat).SetFloat64(x))
	return sum.Quo(sum, big.NewRat(2, 1))
}

// decimal is one: its digits as a whole number, n of them, and its exponent.
type decimal struct {
	digits *big.Int
	n, e   int
}

func (d decimal) value() *big.Rat {
	return new(big.Rat).Mul(new(big.Rat).SetInt(d.digits), ten(d.e-d.n+1))
}

// about tells the two decimals of n digits that lie about x; e is x's own exponent.
func about(x *big.Rat, n, e int) []decimal {
	scaled := new(big.Rat).Mul(x, ten(n-1-e))
	low := new(big.Int).Quo(scaled.Num(), scaled.Denom())
	high := new(big.Int).Add(low, big.NewInt(1))
	all := []decimal{{low, n, e}}
	if len(high.String()) > n {
		return append(all, decimal{high.Quo(high, big.NewInt(10)), n, e + 1})
	}
	return append(all, decimal{high, n, e})
}

// digitsOf tells the digits of a finite float above 0, and whether two were as near.
func digitsOf(x float64) (best decimal, tie bool) {
	exact := new(big.Rat).SetFloat64(x)
	low, high := half(x, 0), half(x, math.Inf(1))
	odd := math.Float64bits(x)&1 == 1
	e := guess(x, exact)
	for n := 1; ; n++ {
		var nearest *big.Rat
		for _, d := range about(exact, n, e) {
			v := d.value()
			if a, b := v.Cmp(low), v.Cmp(high); a < 0 || b > 0 || odd && (a == 0 || b == 0) {
				continue
			}
			off := new(big.Rat).Sub(v, exact)
			off.Abs(off)
			switch {
			case nearest == nil || off.Cmp(nearest) < 0:
				best, nearest = d, off
			case off.Cmp(nearest) == 0:
				tie = true
				if d.digits.Bit(0) == 0 {
					best = d
				}
			}
		}
		if nearest != nil {
			return best, tie
		}
	}
}

// guess tells the exponent by a logarithm, and mends it where that was rounded: 10^e is at most x, and 10^(e+1) above it.
func guess(x float64, exact *big.Rat) int {
	e := int(math.Floor(math.Log10(x)))
	for ten(e).Cmp(exact) > 0 {
		e--
	}
	for ten(e+1).Cmp(exact) <= 0 {
		e++
	}
	return e
}

// known: digits that were found already; exact fractions are slow.
var known = map[float64]decimal{}

// textOf tells a float's text, by the words of P2.1.
func textOf(x float64) string {
	switch {
	case x != x:
		return "NaN"
	case math.IsInf(x, 1):
		return "+Inf"
	case math.Signbit(x):
		if math.IsInf(x, -1) {
			return "-Inf"
		}
		return "-" + textOf(-x)
	case x == 0:
		return "0"
	}
	d, ok := known[x]
	if !ok {
		d, _ = digitsOf(x)
		known[x] = d
	}
	digits, e := d.digits.String(), d.e
	switch {
	case e >= 0 && e <= 20 && len(digits) <= e+1:
		return digits + strings.Repeat("0", e+1-len(digits))
	case e >= 0 && e <= 20:
		return digits[:e+1] + "." + digits[e+1:]
	case e >= -6 && e <= -1:
		return "0." + strings.Repeat("0", -e-1) + digits
	case len(digits) > 1:
		return digits[:1] + "." + digits[1:] + "e" + strconv.Itoa(e)
	}
	return digits + "e" + strconv.Itoa(e)
}

var form = regexp.MustCompile(`^-?[0-9]+(\.[0-9]+)?(e-?[0-9]+)?$`)

// readOf tells the float whose text it is, and whether there is one, by exact fractions.
func readOf(text string) (float64, bool) {
	switch text {
	case "NaN":
		return math.NaN(), true
	case "+Inf":
		return math.Inf(1), true
	case "-Inf":
		return math.Inf(-1), true
	case "-0":
		return negativeZero, true
	}
	if !form.MatchString(text) {
		return 0, false
	}
	r, ok := new(big.Rat).SetString(text)
	if !ok {
		return 0, false
	}
	x, _ := r.Float64()
	return x, textOf(x) == text
}

// The floats that the tests go through.

// edges tells the floats about 0, about the powers of two and of ten, about whole numbers, and the greatest ones, with both signs.
func edges() []float64 {
	seen := map[uint64]bool{}
	var all []float64
	put := func(x float64) {
		for _, y := range []float64{x, math.Nextafter(x, 0), math.Nextafter(x, math.Inf(1))} {
			for _, z := range []float64{y, -y} {
				if !seen[math.Float64bits(z)] {
					seen[math.Float64bits(z)] = true
					all = append(all, z)
				}
			}
		}
	}
	put(0)
	put(math.MaxFloat64)
	for e := -1074; e <= 1023; e++ {
		put(math.Ldexp(1, e))
	}
	for e := -323; e <= 308; e++ {
		x, _ := ten(e).Float64()
		put(x)
	}
	for n := range 200 {
		put(float64(n))
		put(float64(n) / 10)
	}
	return append(all, math.NaN(), otherNaN)
}

// mixed tells the same floats each time: of all bits, of few digits, and halves of a last digit.
func mixed(n int) []float64 {
	r := rand.New(rand.NewSource(2))
	var all []float64
	for range n {
		all = append(all, math.Float64frombits(r.Uint64()))
		few, _ := new(big.Rat).Mul(big.NewRat(r.Int63n(100000), 1), ten(r.Intn(60)-40)).Float64()
		all = append(all, few, -few)
		all = append(all, math.Ldexp(float64(1<<52+r.Int63n(1<<52)), -1-r.Intn(24)))
		all = append(all, math.Ldexp(float64(1<<52+r.Int63n(1<<52)), r.Intn(24)))
	}
	return all
}

func floats() []float64 { return append(edges(), mixed(400)...) }

// P2.1

func TestPrintExamples(t *testing.T) {
	third, tenth := 3.0, 0.1
	for _, c := range []struct {
		x    float64
		want string
	}{
		{math.NaN(), "NaN"}, {otherNaN, "NaN"}, {math.Inf(1), "+Inf"}, {math.Inf(-1), "-Inf"},
		{0, "0"}, {negativeZero, "-0"}, {1, "1"}, {-1, "-1"}, {-1.5, "-1.5"}, {0.1, "0.1"},
		{100, "100"}, {123456.789, "123456.789"}, {0.000001, "0.000001"}, {0.0000001, "1e-7"},
		{1e20, "100000000000000000000"}, {1e21, "1e21"}, {1.5e300, "1.5e300"}, {1e23, "1e23"},
		{5e-324, "5e-324"}, {math.MaxFloat64, "1.7976931348623157e308"}, {-math.MaxFloat64, "-1.7976931348623157e308"},
		{9007199254740992, "9007199254740992"}, {9007199254740994, "9007199254740994"}, {0x1p960, "9.7453140114e288"},
		{2147483648.00390625, "2147483648.0039062"},
		{tenth + 2*tenth, "0.30000000000000004"}, {1 / third, "0.3333333333333333"},
		{-2.5e-7, "-2.5e-7"}, {1e-10, "1e-10"}, {1.25e-9, "1.25e-9"}, {-1e-100, "-1e-100"}, {0.000123, "0.000123"},
		{0x1p-44, "5.684341886080802e-14"}, {0x1p-1022, "2.2250738585072014e-308"}, {2e-323, "2e-323"},
		{999999999999999868928, "999999999999999900000"}, {math.Nextafter(1e-6, 0), "9.999999999999997e-7"},
		{-1.2345678901234567e-6, "-0.0000012345678901234567"},
	} {
		if got := real.Print(c.x); got != c.want {
			t.Errorf("Print(%b): %q, want %q", c.x, got, c.want)
		}
	}
}

func TestPrintTellsTheDigits(t *testing.T) {
	for _, x := range floats() {
		if got, want := real.Print(x), textOf(x); got != want {
			t.Errorf("Print(%b): %q, want %q", x, got, want)
		}
	}
}

func TestPrintOfTwoAsNearTellsTheEvenOne(t *testing.T) {
	r := rand.New(rand.NewSource(3))
	ties := 0
	for range 5000 {
		// Of such floats, the last digit that is needed is often followed by a 5 alone.
		x := math.Ldexp(float64(r.Int63n(1<<11)<<42|1<<(r.Intn(4))|1<<52), -1-r.Intn(22))
		d, tie := digitsOf(x)
		if !tie {
			continue
		}
		ties++
		got := strings.Replace(real.Print(x), ".", "", 1)
		if want := d.digits.String(); got != want || d.digits.Bit(0) != 0 {
			t.Errorf("Print(%b): the digits %q, want %q", x, got, want)
		}
	}
	if ties < 50 {
		t.Errorf("only %d floats have two decimals as near", ties)
	}
}

// P2.2

func TestParseReadsEveryText(t *testing.T) {
	for _, x := range floats() {
		text := textOf(x)
		if got, e := real.Parse(text); e != api.OK || !same(got, x) {
			t.Errorf("Parse(%q): %b, %d, want %b", text, got, e, x)
		}
	}
}

func TestParseRefusesWhatIsNoText(t *testing.T) {
	for _, text := range []string{
		"1.0", "01", "1e5", "+1", ".5", "1e+21", "1e400", "inf", "", "0.10000000000000001", "5e-325",
		"nan", "NAN", "+NaN", "-NaN", "Inf", "+inf", "-inf", "+Infinity", "Infinity", "+INF",
		"-", "+", ".", "e", "e21", "-e21", "--1", "+-1", "1-", "- 1", " 1", "1 ", "1\n", "\x001", "1\x00",
		"+0", "00", "-00", "0.0", "-0.0", "0e0", "0.", "0e21", "-0e-7",
		"1.", "1.e21", "1.50", "1.5.5", "1e", "1e-", "1e21e", "1e21.0", "1e021", "1e-07", "1e--7", "1E21", "1e 21", "10e20", "0.1e22", "1.0e21", "1.50e300",
		"1e20", "1e0", "1e-6", "1.5e-1", "0.0000001", "0.0000009999999999999999", "1000000000000000000000", "100000000000000000000.0", "100000000000000000000.5",
		"0x1p3", "0x10", "0X1P-3", "1_0", "1_000", "0b1", "0o7", "1f", "1p3", "1i", "1,5", "١", "１",
		"2147483648.0039063", "2147483648.00390625", "9007199254740993", "9.745314011399999e288",
		"1.7976931348623158e308", "1.7976931348623159e308", "1e309", "-1e309", "1e99999999999999999999", "1e-99999999999999999999", "4e-324", "3e-324", "2e-324", "1e-324",
		"0.3333333333333333148", "0.33333333333333333", "123456.7890", strings.Repeat("9", 400), "0." + strings.Repeat("0", 400) + "1", "1" + strings.Repeat("0", 1<<16), "1." + strings.Repeat("0", 1<<16),
	} {
		if x, e := real.Parse(text); e != api.ErrForm || math.Float64bits(x) != 0 {
			t.Errorf("Parse(%.60q): %b, %d, want ErrForm", text, x, e)
		}
	}
}

func TestParseOfTextsWithOneByteChanged(t *testing.T) {
	const letters = "0123456789.e+-xpNaInf_E "
	for _, text := range []string{"0", "-0", "10", "-1.5", "0.1", "0.000001", "1e-7", "1e21", "1.5e300", "-5e-324", "123456.789", "100000000000000000000", "NaN", "+Inf", "-Inf"} {
		for i := range len(text) + 1 {
			checkRead(t, text[:i])
			if i < len(text) {
				checkRead(t, text[:i]+text[i+1:])
			}
			for _, c := range letters {
				checkRead(t, text[:i]+string(c)+text[i:])
				if i < len(text) {
					checkRead(t, text[:i]+string(c)+text[i+1:])
				}
			}
		}
	}
}

func checkRead(t *testing.T, text string) {
	t.Helper()
	want, is := readOf(text)
	got, e := real.Parse(text)
	if is && (e != api.OK || !same(got, want)) || !is && (e != api.ErrForm || math.Float64bits(got) != 0) {
		t.Errorf("Parse(%q): %b, %d, want %b, %t", text, got, e, want, is)
	}
}

// P2.3

// same tells whether two floats have the same bits, or are NaNs.
func same(a, b float64) bool {
	return a != a && b != b || math.Float64bits(a) == math.Float64bits(b)
}

// ordered: floats, each ahead of the next one.
func ordered() []float64 {
	return []float64{
		math.NaN(), math.Inf(-1), -math.MaxFloat64, math.Nextafter(-0x1p960, math.Inf(-1)), -0x1p960, -2, math.Nextafter(-1, -2), -1, -0x1p-1022, -1e-323, -5e-324, negativeZero,
		0, 5e-324, 1e-323, 0x1p-1022, 1, math.Nextafter(1, 2), 2, 0x1p960, math.Nextafter(0x1p960, math.Inf(1)), math.MaxFloat64, math.Inf(1),
	}
}

func TestCompareAndSame(t *testing.T) {
	all := ordered()
	for i, a := range all {
		for k, b := range all {
			want := 0
			if i < k {
				want = -1
			} else if i > k {
				want = 1
			}
			if got := real.Compare(a, b); got != want {
				t.Errorf("Compare(%b, %b): %d, want %d", a, b, got, want)
			}
			if got := real.Same(a, b); got != (want == 0) {
				t.Errorf("Same(%b, %b): %t", a, b, got)
			}
		}
	}
}

func TestNaNsAreAllTheSame(t *testing.T) {
	nans := []float64{math.NaN(), otherNaN, math.Float64frombits(0x7ff0000000000001), math.Float64frombits(0xffffffffffffffff)}
	for _, a := range nans {
		for _, b := range nans {
			if c := real.Compare(a, b); c != 0 || !real.Same(a, b) {
				t.Errorf("Compare of two NaNs (%x, %x): %d", math.Float64bits(a), math.Float64bits(b), c)
			}
		}
		for _, b := range ordered()[1:] {
			if real.Compare(a, b) != -1 || real.Compare(b, a) != 1 || real.Same(a, b) || real.Same(b, a) {
				t.Errorf("a NaN (%x) isn't ahead of %b", math.Float64bits(a), b)
			}
		}
	}
}

func TestMay(t *testing.T) {
	const most = 0x1p960
	for _, c := range []struct {
		x    float64
		want bool
	}{
		{0, true}, {negativeZero, true}, {1, true}, {-1.5, true}, {5e-324, true}, {-5e-324, true}, {1e288, true},
		{most, true}, {-most, true}, {math.Nextafter(most, 0), true}, {math.Nextafter(-most, 0), true},
		{math.Nextafter(most, math.Inf(1)), false}, {math.Nextafter(-most, math.Inf(-1)), false}, {0x1p961, false}, {-0x1p961, false},
		{math.MaxFloat64, false}, {-math.MaxFloat64, false}, {math.Inf(1), false}, {math.Inf(-1), false}, {math.NaN(), false}, {otherNaN, false},
	} {
		if got := real.May(c.x); got != c.want {
			t.Errorf("May(%b): %t", c.x, got)
		}
	}
}

// P2.4

func TestThereAndBack(t *testing.T) {
	r := rand.New(rand.NewSource(4))
	all := floats()
	for range 50000 {
		all = append(all, math.Float64frombits(r.Uint64()))
	}
	for _, x := range all {
		text := real.Print(x)
		back, e := real.Parse(text)
		if e != api.OK || !same(back, x) {
			t.Fatalf("Parse(Print(%b)): %b, %d", x, back, e)
		}
	}
}

func TestWhatIsReadIsToldSo(t *testing.T) {
	r := rand.New(rand.NewSource(5))
	read := 0
	for range 40000 {
		// Short texts of a float's letters are often a float's text, and often not.
		text := make([]byte, 1+r.Intn(6))
		for i := range text {
			text[i] = "0123456789.e-"[r.Intn(13)]
		}
		x, e := real.Parse(string(text))
		if e == api.OK {
			read++
			if got := real.Print(x); got != string(text) {
				t.Fatalf("Parse(%q) is %b, whose text is %q", text, x, got)
			}
		} else if math.Float64bits(x) != 0 {
			t.Fatalf("Parse(%q): %b beside an error", text, x)
		}
		checkRead(t, string(text))
	}
	if read < 500 {
		t.Errorf("only %d texts were read", read)
	}
}

// P2.5

func TestCompareIsAnOrderOfAllFloats(t *testing.T) {
	all := floats()
	slices.SortFunc(all, real.Compare)
	for i := 1; i < len(all); i++ {
		a, b := all[i-1], all[i]
		c := real.Compare(a, b)
		if c > 0 || real.Compare(b, a) != -c || real.Compare(a, a) != 0 {
			t.Fatalf("%b, %b: out of order", a, b)
		}
		if (c == 0) != same(a, b) {
			t.Fatalf("%b, %b: the same, or not?", a, b)
		}
	}
	r := rand.New(rand.NewSource(6))
	for range 50000 {
		i, k := r.Intn(len(all)), r.Intn(len(all))
		if c := real.Compare(all[i], all[k]); i < k && c > 0 || i > k && c < 0 {
			t.Fatalf("%b, %b: %d", all[i], all[k], c)
		}
	}
}

func TestUnlikeFloatsHaveUnlikeTexts(t *testing.T) {
	texts := map[string]float64{}
	for _, x := range floats() {
		text := real.Print(x)
		if y, ok := texts[text]; ok && !same(x, y) {
			t.Errorf("%b and %b have one text, %q", x, y, text)
		}
		texts[text] = x
	}
}
