package wide_test

import (
	"math"
	"math/big"
	"math/rand"
	"strings"
	"testing"

	"gnomon/api"
	"gnomon/wide"
)

var (
	least    = api.Int{Hi: math.MinInt64}
	greatest = api.Int{Hi: math.MaxInt64, Lo: math.MaxUint64}
)

// whole tells what an Int stands for, by the library's own numbers.
func whole(a api.Int) *big.Int {
	x := new(big.Int).Lsh(big.NewInt(a.Hi), 64)
	return x.Add(x, new(big.Int).SetUint64(a.Lo))
}

// round brings a number round, and tells it as an Int.
func round(x *big.Int) api.Int {
	modulus := new(big.Int).Lsh(big.NewInt(1), 128)
	y := new(big.Int).Mod(x, modulus)
	hi := new(big.Int).Rsh(y, 64).Uint64()
	lo := new(big.Int).And(y, new(big.Int).SetUint64(math.MaxUint64)).Uint64()
	return api.Int{Hi: int64(hi), Lo: lo}
}

// fits tells whether a number is from -2^127 to 2^127 - 1.
func fits(x *big.Int) bool { return whole(round(x)).Cmp(x) == 0 }

// edges tells the numbers about 0, and about the powers of two and of ten, with both signs.
func edges() []api.Int {
	var all []api.Int
	seen := map[api.Int]bool{}
	put := func(x *big.Int) {
		for d := int64(-1); d <= 1; d++ {
			a := round(new(big.Int).Add(x, big.NewInt(d)))
			for _, b := range []api.Int{a, round(new(big.Int).Neg(whole(a)))} {
				if !seen[b] {
					seen[b] = true
					all = append(all, b)
				}
			}
		}
	}
	put(new(big.Int))
	for k := uint(1); k < 128; k++ {
		put(new(big.Int).Lsh(big.NewInt(1), k))
	}
	ten := big.NewInt(1)
	for range 38 {
		ten = new(big.Int).Mul(ten, big.NewInt(10))
		put(ten)
	}
	return all
}

// mixed tells the same numbers of all lengths each time.
func mixed(n int) []api.Int {
	r := rand.New(rand.NewSource(1))
	all := make([]api.Int, n)
	for i := range all {
		a := api.Int{Hi: int64(r.Uint64()), Lo: r.Uint64()}
		all[i] = round(new(big.Int).Rsh(whole(a), uint(r.Intn(128))))
	}
	return all
}

// numbers tells edges and others.
func numbers() []api.Int { return append(edges(), mixed(500)...) }

// eachPair goes through all pairs of edges, and through pairs of others.
func eachPair(t *testing.T, check func(a, b api.Int)) {
	t.Helper()
	all := edges()
	for _, a := range all {
		for _, b := range all {
			check(a, b)
		}
	}
	others := mixed(4000)
	for i, a := range others {
		check(a, others[len(others)-1-i])
		check(a, a)
	}
}

// words tells edges of 64 bits, and others.
func words() []uint64 {
	all := []uint64{0}
	for k := range 64 {
		all = append(all, 1<<k-1, 1<<k, 1<<k+1, math.MaxUint64<<k)
	}
	for ten := uint64(1); ten <= math.MaxUint64/10; ten *= 10 {
		all = append(all, ten*10-1, ten*10)
	}
	r := rand.New(rand.NewSource(2))
	for range 100 {
		all = append(all, r.Uint64()>>r.Intn(64))
	}
	return append(all, math.MaxUint64)
}

func same(t *testing.T, what string, got, want api.Int) {
	t.Helper()
	if got != want {
		t.Errorf("%s: %v, want %v", what, got, want)
	}
}

// P1.1

func TestNumbersOfExamples(t *testing.T) {
	ones := api.Int{Lo: math.MaxUint64}
	same(t, "Of(-1)", wide.Of(-1), api.Int{Hi: -1, Lo: math.MaxUint64})
	same(t, "Of(least)", wide.Of(math.MinInt64), api.Int{Hi: -1, Lo: 1 << 63})
	same(t, "Of(greatest)", wide.Of(math.MaxInt64), api.Int{Lo: math.MaxInt64})
	same(t, "Unsigned(2^64 - 1)", wide.Unsigned(math.MaxUint64), ones)
	same(t, "Add", wide.Add(ones, wide.Of(1)), api.Int{Hi: 1})
	same(t, "Sub", wide.Sub(api.Int{Hi: 1}, wide.Of(1)), ones)
	same(t, "Neg of the least", wide.Neg(least), least)
	same(t, "Add brought round", wide.Add(greatest, wide.Of(1)), least)
	same(t, "Sub brought round", wide.Sub(least, wide.Of(1)), greatest)
	if got := wide.Compare(wide.Of(-1), wide.Unsigned(math.MaxUint64)); got != -1 {
		t.Errorf("Compare: %d, want -1", got)
	}
}

func TestOfAndUnsignedTellTheNumber(t *testing.T) {
	for _, n := range words() {
		same(t, "Of", wide.Of(int64(n)), round(big.NewInt(int64(n))))
		same(t, "Unsigned", wide.Unsigned(n), round(new(big.Int).SetUint64(n)))
	}
}

func TestSumsAndDifferencesAreBroughtRound(t *testing.T) {
	eachPair(t, func(a, b api.Int) {
		x, y := whole(a), whole(b)
		if got, want := wide.Add(a, b), round(new(big.Int).Add(x, y)); got != want {
			t.Errorf("Add(%v, %v): %v, want %v", a, b, got, want)
		}
		if got, want := wide.Sub(a, b), round(new(big.Int).Sub(x, y)); got != want {
			t.Errorf("Sub(%v, %v): %v, want %v", a, b, got, want)
		}
	})
	for _, a := range numbers() {
		if got, want := wide.Neg(a), round(new(big.Int).Neg(whole(a))); got != want {
			t.Errorf("Neg(%v): %v, want %v", a, got, want)
		}
	}
}

func TestCompareAndSign(t *testing.T) {
	eachPair(t, func(a, b api.Int) {
		if got, want := wide.Compare(a, b), whole(a).Cmp(whole(b)); got != want {
			t.Errorf("Compare(%v, %v): %d, want %d", a, b, got, want)
		}
	})
	for _, a := range numbers() {
		if got, want := wide.Sign(a), whole(a).Sign(); got != want {
			t.Errorf("Sign(%v): %d, want %d", a, got, want)
		}
	}
}

// P1.2

func TestTextsOfExamples(t *testing.T) {
	for _, x := range []struct {
		a    api.Int
		text string
	}{
		{api.Int{}, "0"},
		{wide.Of(-1), "-1"},
		{api.Int{Hi: 1}, "18446744073709551616"},
		{greatest, "170141183460469231731687303715884105727"},
		{least, "-170141183460469231731687303715884105728"},
	} {
		if got := wide.Print(x.a); got != x.text {
			t.Errorf("Print(%v): %q, want %q", x.a, got, x.text)
		}
		if got, e := wide.Parse(x.text); got != x.a || e != api.OK {
			t.Errorf("Parse(%q): %v, %v", x.text, got, e)
		}
	}
}

func TestPrintTellsTheDigits(t *testing.T) {
	for _, a := range numbers() {
		if got, want := wide.Print(a), whole(a).String(); got != want {
			t.Errorf("Print(%v): %q, want %q", a, got, want)
		}
	}
}

func TestParseReadsTheDigits(t *testing.T) {
	for _, a := range numbers() {
		text := whole(a).String()
		if got, e := wide.Parse(text); got != a || e != api.OK {
			t.Errorf("Parse(%q): %v, %v, want %v", text, got, e, a)
		}
	}
}

func refused(t *testing.T, text string) {
	t.Helper()
	if a, e := wide.Parse(text); a != (api.Int{}) || e != api.ErrForm {
		t.Errorf("Parse(%.60q): %v, %v, want ErrForm and 0", text, a, e)
	}
}

func TestParseRefusesWhatIsNoText(t *testing.T) {
	for _, text := range []string{
		"", "-", "--1", "-0", "00", "007", "-007", "+1", "+0", " 1", "1 ", "1\n", "\x001", "1\x00", "1-", "1_000", "1,000", "1.0", "1e3", "0x1", "ff", "\xff", "\u0661", "\uff11", "\u22121",
		strings.Repeat("0", 39), strings.Repeat("0", 40), strings.Repeat("-", 40), strings.Repeat("9", 40),
		"0" + wide.Print(greatest), "-0" + wide.Print(greatest), wide.Print(greatest) + "0", wide.Print(greatest) + "\x00",
		strings.Repeat("0", 1<<20), strings.Repeat("1", 1<<20), "-" + strings.Repeat("9", 1<<20),
	} {
		refused(t, text)
	}
}

func TestParseRefusesWhatIsBeyondTheNumbers(t *testing.T) {
	modulus := new(big.Int).Lsh(big.NewInt(1), 128)
	refused(t, "170141183460469231731687303715884105728")
	refused(t, "-170141183460469231731687303715884105729")
	for _, a := range numbers() {
		for _, times := range []int64{-3, -2, -1, 1, 2, 3} {
			beyond := new(big.Int).Mul(modulus, big.NewInt(times))
			refused(t, beyond.Add(beyond, whole(a)).String())
		}
	}
}

// number tells, by the words of the document, whether a text is that of a number, and of which.
func number(text string) (api.Int, bool) {
	rest := strings.TrimPrefix(text, "-")
	if rest == "" || strings.Trim(rest, "0123456789") != "" || rest[0] == '0' && text != "0" {
		return api.Int{}, false
	}
	x, ok := new(big.Int).SetString(text, 10)
	return round(x), ok && fits(x)
}

func TestParseOfTextsWithAnotherByte(t *testing.T) {
	for _, text := range []string{"0", "-1", "10", "907", "-18446744073709551616", wide.Print(greatest), wide.Print(least)} {
		for at := range len(text) {
			for c := range 256 {
				changed := text[:at] + string([]byte{byte(c)}) + text[at+1:]
				want, ok := number(changed)
				if !ok {
					refused(t, changed)
				} else if got, e := wide.Parse(changed); got != want || e != api.OK {
					t.Errorf("Parse(%q): %v, %v, want %v", changed, got, e, want)
				}
			}
		}
	}
}

// P1.3

func nearest(t *testing.T, a api.Int) {
	t.Helper()
	want, _ := new(big.Float).SetInt(whole(a)).Float64()
	if got := wide.Float(a); math.Float64bits(got) != math.Float64bits(want) {
		t.Errorf("Float(%v): %v, want %v", a, got, want)
	}
}

func TestFloatOfExamples(t *testing.T) {
	for _, x := range []struct {
		a    api.Int
		want float64
	}{
		{api.Int{}, 0},
		{wide.Of(9007199254740993), 9007199254740992},
		{wide.Of(9007199254740995), 9007199254740996},
		{api.Int{Hi: 1, Lo: 2048}, 18446744073709551616},
		{api.Int{Hi: 1, Lo: 2049}, 18446744073709555712},
		{least, -0x1p127},
		{greatest, 0x1p127},
	} {
		if got := wide.Float(x.a); math.Float64bits(got) != math.Float64bits(x.want) {
			t.Errorf("Float(%v): %v, want %v", x.a, got, x.want)
		}
	}
}

func TestFloatIsTheNearest(t *testing.T) {
	for _, a := range numbers() {
		nearest(t, a)
	}
}

func TestFloatHalfWay(t *testing.T) {
	r := rand.New(rand.NewSource(3))
	for shift := uint(1); shift <= 74; shift++ {
		half := new(big.Int).Lsh(big.NewInt(1), shift-1)
		for _, m := range []int64{1 << 52, 1<<52 + 1, 1<<53 - 2, 1<<53 - 1, 1<<52 | r.Int63n(1<<52)} {
			middle := new(big.Int).Lsh(big.NewInt(m), shift)
			middle.Add(middle, half)
			for d := int64(-1); d <= 1; d++ {
				a := round(new(big.Int).Add(middle, big.NewInt(d)))
				nearest(t, a)
				nearest(t, wide.Neg(a))
			}
		}
	}
}

// P1.4

func TestMulAndDivOfExamples(t *testing.T) {
	if hi, lo := wide.Mul(1<<63, 6); hi != 3 || lo != 0 {
		t.Errorf("Mul(2^63, 6): %d, %d", hi, lo)
	}
	for _, x := range []struct {
		hi, lo, by, q, r uint64
		e                api.Errno
	}{
		{3, 0, 6, 1 << 63, 0, api.OK},
		{1, 5, 1, 0, 0, api.ErrRange},
		{0, 7, 0, 0, 0, api.ErrArg},
		{7, 7, 0, 0, 0, api.ErrArg},
		{1, 0, 3, 6148914691236517205, 1, api.OK},
		{5, 0, 5, 0, 0, api.ErrRange},
		{4, math.MaxUint64, 5, math.MaxUint64, 4, api.OK},
		{math.MaxUint64, math.MaxUint64, math.MaxUint64, 0, 0, api.ErrRange},
	} {
		if q, r, e := wide.Div(x.hi, x.lo, x.by); q != x.q || r != x.r || e != x.e {
			t.Errorf("Div(%d, %d, %d): %d, %d, %v", x.hi, x.lo, x.by, q, r, e)
		}
	}
}

// unsigned tells hi times 2^64, and lo.
func unsigned(hi, lo uint64) *big.Int {
	x := new(big.Int).Lsh(new(big.Int).SetUint64(hi), 64)
	return x.Add(x, new(big.Int).SetUint64(lo))
}

func TestMulTellsTheWholeProduct(t *testing.T) {
	for _, a := range words() {
		for _, b := range words() {
			hi, lo := wide.Mul(a, b)
			if want := new(big.Int).Mul(unsigned(0, a), unsigned(0, b)); unsigned(hi, lo).Cmp(want) != 0 {
				t.Errorf("Mul(%d, %d): %d, %d, want %v", a, b, hi, lo, want)
			}
		}
	}
}

// quotient tells what Div has to, by the library's own numbers.
func quotient(hi, lo, by uint64) (q, r uint64, e api.Errno) {
	if by == 0 {
		return 0, 0, api.ErrArg
	}
	x, y := new(big.Int).QuoRem(unsigned(hi, lo), unsigned(0, by), new(big.Int))
	if !x.IsUint64() {
		return 0, 0, api.ErrRange
	}
	return x.Uint64(), y.Uint64(), api.OK
}

func TestDivTellsQuotientAndRest(t *testing.T) {
	all := words()
	check := func(hi, lo, by uint64) {
		q, r, e := wide.Div(hi, lo, by)
		if wq, wr, we := quotient(hi, lo, by); q != wq || r != wr || e != we {
			t.Errorf("Div(%d, %d, %d): %d, %d, %v, want %d, %d, %v", hi, lo, by, q, r, e, wq, wr, we)
		}
	}
	for i, by := range all {
		for j, lo := range all {
			check(all[(i*7+j)%len(all)], lo, by)
			check(by-1, lo, by)
			check(by, lo, by)
			check(by/2, lo, by)
		}
	}
}

// P1.5

func TestAddAndSubUndoOneAnother(t *testing.T) {
	eachPair(t, func(a, b api.Int) {
		if wide.Sub(wide.Add(a, b), b) != a || wide.Add(wide.Sub(a, b), b) != a {
			t.Errorf("Add and Sub of %v, %v don't undo one another", a, b)
		}
		if wide.Add(a, b) != wide.Add(b, a) {
			t.Errorf("Add of %v, %v hangs on the order", a, b)
		}
	})
}

func TestCompareIsTheSignOfTheDifference(t *testing.T) {
	eachPair(t, func(a, b api.Int) {
		if !fits(new(big.Int).Sub(whole(a), whole(b))) {
			return
		}
		if got, want := wide.Compare(a, b), wide.Sign(wide.Sub(a, b)); got != want {
			t.Errorf("Compare(%v, %v): %d, the difference's sign %d", a, b, got, want)
		}
	})
}

func TestParseAndPrintUndoOneAnother(t *testing.T) {
	for _, a := range numbers() {
		text := wide.Print(a)
		b, e := wide.Parse(text)
		if b != a || e != api.OK {
			t.Errorf("Parse(Print(%v)): %v, %v", a, b, e)
		}
		if again := wide.Print(b); again != text {
			t.Errorf("Print(Parse(%q)): %q", text, again)
		}
	}
}

func TestDivTakesApart(t *testing.T) {
	for _, q := range words() {
		for _, by := range words() {
			if by == 0 {
				continue
			}
			for _, r := range []uint64{0, by / 2, by - 1} {
				hi, lo := wide.Mul(q, by)
				n := wide.Add(api.Int{Hi: int64(hi), Lo: lo}, wide.Unsigned(r))
				q2, r2, e := wide.Div(uint64(n.Hi), n.Lo, by)
				if q2 != q || r2 != r || e != api.OK {
					t.Errorf("Div of %d times %d, and %d: %d, %d, %v", q, by, r, q2, r2, e)
				}
			}
		}
	}
}

func TestFloatKeepsTheOrder(t *testing.T) {
	eachPair(t, func(a, b api.Int) {
		if wide.Compare(a, b) <= 0 && wide.Float(a) > wide.Float(b) {
			t.Errorf("Float turns %v, %v round", a, b)
		}
	})
}
