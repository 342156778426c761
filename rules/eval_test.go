package rules_test

import (
	"math"
	"math/rand"
	"slices"
	"testing"

	"gnomon/api"
	"gnomon/ring"
	"gnomon/rules"
	"gnomon/snap"
)

// P22.4.

func counter(name string, total api.Int, l ...string) api.Value {
	return api.Value{Desc: api.Desc{Kind: api.Counter, Name: name, Labels: labels(l...)}, Total: total}
}

func whole(n uint64) api.Int { return api.Int{Lo: n} }

// histogram tells one of n values, all of them v, which is below 8.
func histogram(name string, v int, n uint64, l ...string) api.Value {
	out := api.Value{Desc: api.Desc{Kind: api.Histogram, Name: name, Labels: labels(l...)}, Total: whole(uint64(v) * n), N: n}
	if n > 0 {
		out.Counts = []api.Count{{Index: v, N: n}}
	}
	return out
}

func summary(name string, n uint64, sum, least, greatest float64, l ...string) api.Value {
	return api.Value{Desc: api.Desc{Kind: api.Summary, Name: name, Labels: labels(l...)}, N: n, Sum: sum, Min: least, Max: greatest}
}

func snapshot(values ...api.Value) api.Snapshot { return api.Snapshot{Precision: 3, Values: values} }

// chapter is the ring of the chapter's examples.
func chapter(t *testing.T) *ring.Ring {
	return rung(t, []held{{10, snapshot(counter("a", whole(30)), summary("s", 2, 5, 1, 4))}})
}

// read tells the rule of a text.
func read(t *testing.T, text string) api.Rule {
	t.Helper()
	x, e, at := rules.Parse(text)
	if e != api.OK {
		t.Fatalf("%s: %v at %d", text, e, at)
	}
	return x
}

func wantsAnswer(t *testing.T, r *ring.Ring, now int64, x api.Rule, want api.Answer, wantE api.Errno) {
	t.Helper()
	if a, e := rules.Eval(r, now, x); e != wantE || !sameAnswer(a, want) {
		t.Errorf("%.200s at %d comes to %v, %v, want %v, %v", textOf(x), now, a, e, want, wantE)
	}
}

func wantsNumber(t *testing.T, r *ring.Ring, now int64, text string, want float64) {
	t.Helper()
	wantsAnswer(t, r, now, read(t, text), api.Answer{X: want}, api.OK)
}

func wantsTruth(t *testing.T, r *ring.Ring, now int64, text string, want bool) {
	t.Helper()
	wantsAnswer(t, r, now, read(t, text), api.Answer{Truth: true, Is: want}, api.OK)
}

func wantsNone(t *testing.T, r *ring.Ring, now int64, text string, want api.Errno) {
	t.Helper()
	wantsAnswer(t, r, now, read(t, text), api.Answer{}, want)
}

func TestAnswersOfTheChapter(t *testing.T) {
	r := chapter(t)
	wantsNumber(t, r, 12, "total(a, 5)", 30)
	wantsNumber(t, r, 12, "rate(a, 5)", 6)
	wantsNone(t, r, 12, "total(a, 2)", api.ErrEmpty)
	wantsNone(t, r, 12, "total(b, 5)", api.ErrAbsent)
	wantsNone(t, r, 12, "total(s, 5)", api.ErrKind)
	wantsNumber(t, r, 12, "least(s, 5)", 1)
	wantsNumber(t, r, 12, "(sum(s, 5) / count(s, 5))", 2.5)
	wantsTruth(t, r, 12, "((1 < 2) or (total(b, 5) > 1))", true)
	wantsNumber(t, r, 12, "(1 / 0)", math.Inf(1))
}

// TestEachKindOfEachInstrument: what is told, or that it is of another kind.
func TestEachKindOfEachInstrument(t *testing.T) {
	r := rung(t, []held{{10, snapshot(
		counter("c", whole(0)), counter("c", whole(12), "x", "1"),
		histogram("h", 3, 4), histogram("h", 0, 0, "x", "1"),
		summary("s", 3, -7.5, -4, 0.25), summary("s", 0, 0, 0, 0, "x", "1"),
	)}})
	const kind, none = -1.5, -2.5 // for ErrKind, ErrEmpty
	for series, want := range map[string][]float64{
		"c": {0, 0, kind, kind, kind, kind, kind}, `c{x="1"}`: {12, 3, kind, kind, kind, kind, kind},
		"h": {kind, kind, 4, 12, kind, kind, 3}, `h{x="1"}`: {kind, kind, 0, 0, kind, kind, none},
		"s": {kind, kind, 3, -7.5, -4, 0.25, kind}, `s{x="1"}`: {kind, kind, 0, 0, none, none, kind},
	} {
		for i, begin := range []string{"total(", "rate(", "count(", "sum(", "least(", "greatest(", "quantile(1/2, "} {
			text := begin + series + ", 4)"
			switch want[i] {
			case kind:
				wantsNone(t, r, 12, text, api.ErrKind)
			case none:
				wantsNone(t, r, 12, text, api.ErrEmpty)
			default:
				wantsNumber(t, r, 12, text, want[i])
			}
		}
	}
}

// TestSeriesThatAreNotThere: the name and all labels count, in a window that is.
func TestSeriesThatAreNotThere(t *testing.T) {
	r := rung(t, []held{{10, snapshot(counter("c", whole(1)), counter("c", whole(2), "x", "1"), counter("c", whole(3), "x", "1", "y", ""))}})
	wantsNumber(t, r, 10, "total(c, 1)", 1)
	wantsNumber(t, r, 10, `total(c{x="1"}, 1)`, 2)
	wantsNumber(t, r, 10, `total(c{x="1",y=""}, 1)`, 3)
	for _, begin := range []string{"total(", "rate(", "count(", "sum(", "least(", "greatest(", "quantile(1/2, "} {
		for _, series := range []string{"b", "C", "cc", `c{x=""}`, `c{x="2"}`, `c{y=""}`, `c{x="1",y="1"}`, `c{x="1",y="",z=""}`, `b{x="1"}`} {
			wantsNone(t, r, 10, begin+series+", 1)", api.ErrAbsent)
		}
	}
}

// TestWindowsEnds: a window has the times above now - Window, up to now.
func TestWindowsEnds(t *testing.T) {
	r := rung(t, []held{{10, snapshot(counter("c", whole(1)))}, {20, snapshot(counter("c", whole(10)))}, {30, snapshot(counter("c", whole(100)))}})
	for _, c := range []struct{ now, window, want int64 }{
		{30, 1, 100}, {30, 10, 100}, {30, 11, 110}, {30, 20, 110}, {30, 21, 111}, {30, far, 111}, {29, 9, 0}, {29, 10, 10}, {29, 19, 10}, {29, 20, 11}, {31, 1, 0}, {31, 2, 100}, {9, far, 0}, {10, 1, 1}, {10, far, 1}, {19, far, 1}, {20, far, 11}, {far, far, 111}, {far, 1, 0},
		{far, far - 10, 110}, {far, far - 9, 111}, {far, far - 30, 0}, {-far, far, 0}, {-far, 1, 0}, {0, 5, 0},
	} {
		x := of(api.RuleTotal, "c", c.window)
		if c.want == 0 {
			wantsAnswer(t, r, c.now, x, api.Answer{}, api.ErrEmpty)
		} else {
			wantsAnswer(t, r, c.now, x, api.Answer{X: float64(c.want)}, api.OK)
		}
	}
	empty := rung(t, nil)
	for kind := api.RuleTotal; kind <= api.RuleQuantile; kind++ {
		for _, now := range []int64{0, far, -far} {
			wantsAnswer(t, empty, now, plain(kind), api.Answer{}, api.ErrEmpty)
		}
	}
}

// TestEndsOfNow: from -2^62 to 2^62; beyond that nothing is worked out, whatever the rule.
func TestEndsOfNow(t *testing.T) {
	c := snapshot(counter("c", whole(1)))
	r := rung(t, []held{{math.MinInt64, c}, {math.MinInt64 + 1, c}, {-far, c}, {far, c}, {most, c}})
	wantsNumber(t, r, -far, "total(c, 4611686018427387904)", 2) // above -2^63
	wantsNumber(t, r, -far, "total(c, 4611686018427387903)", 1)
	wantsNumber(t, r, -far, "total(c, 1)", 1)
	wantsNumber(t, r, far, "total(c, 4611686018427387904)", 1)
	wantsNumber(t, r, far, "total(c, 1)", 1)
	wantsNone(t, r, far-1, "total(c, 4611686018427387904)", api.ErrEmpty)
	wantsNone(t, r, 0, "total(c, 4611686018427387904)", api.ErrEmpty)
	wantsNumber(t, r, -1, "total(c, 4611686018427387904)", 1)
	for kind := 1; kind <= 21; kind++ {
		for _, now := range []int64{-far - 1, far + 1, math.MinInt64, most} {
			wantsAnswer(t, r, now, plain(kind), api.Answer{}, api.ErrRange)
		}
	}
	for _, now := range []int64{-far, 0, far} {
		wantsNumber(t, r, now, "1", 1)
		wantsTruth(t, r, now, "(1 < 2)", true)
	}
}

// TestErrorsInTheirOrder: of the window, of the series, of its kind, of what is in it.
func TestErrorsInTheirOrder(t *testing.T) {
	huge := api.Int{Hi: math.MaxInt64, Lo: math.MaxUint64}
	for _, c := range []struct {
		v    api.Value
		want api.Errno // that of merging it with itself
	}{
		{counter("x", huge), api.ErrMany}, {summary("x", 1, 0x1p1023, 1, 1), api.ErrRange}, {counter("x", whole(1)), api.OK}, {histogram("x", 0, 1<<62), api.ErrMany},
	} {
		r := rung(t, []held{{10, snapshot(c.v)}, {20, snapshot(c.v)}})
		for kind := api.RuleTotal; kind <= api.RuleQuantile; kind++ {
			x := plain(kind)
			x.Name, x.Window = "absent", 50
			want := c.want
			if want == api.OK {
				want = api.ErrAbsent
			}
			wantsAnswer(t, r, 20, x, api.Answer{}, want)
			wantsAnswer(t, r, 9, x, api.Answer{}, api.ErrEmpty)
			// In a window of one of them nothing is merged.
			x.Window = 5
			wantsAnswer(t, r, 20, x, api.Answer{}, api.ErrAbsent)
		}
	}
	// Of another kind, ahead of being empty.
	r := rung(t, []held{{10, snapshot(histogram("h", 0, 0), summary("s", 0, 0, 0, 0))}})
	wantsNone(t, r, 10, "least(h, 5)", api.ErrKind)
	wantsNone(t, r, 10, "greatest(h, 5)", api.ErrKind)
	wantsNone(t, r, 10, "quantile(0/1, s, 5)", api.ErrKind)
	wantsNone(t, r, 10, "quantile(0/1, h, 5)", api.ErrEmpty)
	wantsNone(t, r, 10, "least(s, 5)", api.ErrEmpty)
	wantsNone(t, r, 10, "greatest(s, 5)", api.ErrEmpty)
}

// TestFirstErrorThatIsMet: Args are worked out the first one first, and an error within is that of all.
func TestFirstErrorThatIsMet(t *testing.T) {
	r := chapter(t)
	empty, absent, kind := of(api.RuleTotal, "a", 1), of(api.RuleTotal, "b", 5), of(api.RuleTotal, "s", 5)
	errs := []struct {
		x api.Rule
		e api.Errno
	}{{empty, api.ErrEmpty}, {absent, api.ErrAbsent}, {kind, api.ErrKind}}
	for of2 := api.RulePlus; of2 <= api.RuleUnlike; of2++ {
		for _, a := range errs {
			wantsAnswer(t, r, 12, two(of2, a.x, number(1)), api.Answer{}, a.e)
			wantsAnswer(t, r, 12, two(of2, number(1), a.x), api.Answer{}, a.e)
			for _, b := range errs {
				wantsAnswer(t, r, 12, two(of2, a.x, b.x), api.Answer{}, a.e)
				wantsAnswer(t, r, 12, two(of2, two(api.RulePlus, number(1), a.x), b.x), api.Answer{}, a.e)
			}
		}
	}
	for _, a := range errs {
		bad := two(api.RuleLess, a.x, number(1))
		wantsAnswer(t, r, 12, not(bad), api.Answer{}, a.e)
		wantsAnswer(t, r, 12, nots(7, bad), api.Answer{}, a.e)
		for _, b := range errs {
			wantsAnswer(t, r, 12, two(api.RuleAnd, bad, two(api.RuleLess, b.x, number(1))), api.Answer{}, a.e)
			wantsAnswer(t, r, 12, two(api.RuleOr, bad, two(api.RuleLess, b.x, number(1))), api.Answer{}, a.e)
		}
	}
}

// TestAndOr: the second one is worked out only where the first one leaves it open.
func TestAndOr(t *testing.T) {
	r := chapter(t)
	bad := two(api.RuleMore, of(api.RuleTotal, "b", 5), number(1))
	is := api.Answer{Truth: true, Is: true}
	isnt := api.Answer{Truth: true}
	none := api.Answer{}
	for _, c := range []struct {
		first, second api.Rule
		and, or       api.Answer
		andE, orE     api.Errno
	}{
		{yes(), yes(), is, is, api.OK, api.OK}, {yes(), no(), isnt, is, api.OK, api.OK}, {no(), yes(), isnt, is, api.OK, api.OK}, {no(), no(), isnt, isnt, api.OK, api.OK},
		{no(), bad, isnt, none, api.OK, api.ErrAbsent}, {yes(), bad, none, is, api.ErrAbsent, api.OK}, {bad, yes(), none, none, api.ErrAbsent, api.ErrAbsent}, {bad, no(), none, none, api.ErrAbsent, api.ErrAbsent}, {bad, bad, none, none, api.ErrAbsent, api.ErrAbsent},
	} {
		wantsAnswer(t, r, 12, two(api.RuleAnd, c.first, c.second), c.and, c.andE)
		wantsAnswer(t, r, 12, two(api.RuleOr, c.first, c.second), c.or, c.orE)
		wantsAnswer(t, r, 12, nots(2, two(api.RuleAnd, c.first, c.second)), c.and, c.andE)
	}
	wantsAnswer(t, r, 12, not(yes()), isnt, api.OK)
	wantsAnswer(t, r, 12, not(no()), is, api.OK)
}

// floats are those at which numbers are odd; what no Number may be comes of a quotient.
func floats() map[string]float64 {
	return map[string]float64{
		"0": 0, "-0": minus, "1": 1, "-1": -1, "0.1": 0.1, "5e-324": 5e-324, "1.7976931348623157e308": math.MaxFloat64, "-1.7976931348623157e308": -math.MaxFloat64,
		"(1 / 0)": math.Inf(1), "(-1 / 0)": math.Inf(-1), "(0 / 0)": math.NaN(), "9007199254740992": 9007199254740992, "3": 3,
	}
}

func TestNumbersOfTwo(t *testing.T) {
	r := rung(t, nil)
	for a, x := range floats() {
		wantsNumber(t, r, 0, a, x)
		for b, y := range floats() {
			wantsNumber(t, r, 0, "("+a+" + "+b+")", x+y)
			wantsNumber(t, r, 0, "("+a+" - "+b+")", x-y)
			wantsNumber(t, r, 0, "("+a+" * "+b+")", x*y)
			wantsNumber(t, r, 0, "("+a+" / "+b+")", x/y)
			wantsTruth(t, r, 0, "("+a+" < "+b+")", x < y)
			wantsTruth(t, r, 0, "("+a+" <= "+b+")", x <= y)
			wantsTruth(t, r, 0, "("+a+" > "+b+")", x > y)
			wantsTruth(t, r, 0, "("+a+" >= "+b+")", x >= y)
			wantsTruth(t, r, 0, "("+a+" == "+b+")", x == y)
			wantsTruth(t, r, 0, "("+a+" != "+b+")", x != y)
		}
	}
	wantsNumber(t, r, 0, "(0.1 + 0.2)", 0.30000000000000004)
	wantsNumber(t, r, 0, "(1 / -0)", math.Inf(-1))
	wantsNumber(t, r, 0, "(0 * -1)", minus)
	wantsNumber(t, r, 0, "(1 - 1)", 0)
	wantsTruth(t, r, 0, "(0 == -0)", true)
	wantsTruth(t, r, 0, "((0 / 0) != (0 / 0))", true)
	wantsTruth(t, r, 0, "((0 / 0) <= (0 / 0))", false)
}

// TestEachIsRoundedByItself: a product and a sum at once would keep what the product's rounding lost.
func TestEachIsRoundedByItself(t *testing.T) {
	r := rung(t, nil)
	// (1 + 2^-30)^2 is 1 + 2^-29 + 2^-60, of which the last is lost.
	wantsNumber(t, r, 0, "((1.0000000009313226 * 1.0000000009313226) - 1.0000000018626451)", 0)
	wantsNumber(t, r, 0, "(-1.0000000018626451 + (1.0000000009313226 * 1.0000000009313226))", 0)
	wantsNumber(t, r, 0, "((10000000000000000 + 1) - 10000000000000000)", 0)
	wantsNumber(t, r, 0, "((1.7976931348623157e308 * 2) / 2)", math.Inf(1))
}

// TestWholeNumbersAsFloats: the nearest one is told, of two as near the even one.
func TestWholeNumbersAsFloats(t *testing.T) {
	for _, n := range []uint64{0, 1, 1<<53 - 1, 1 << 53, 1<<53 + 1, 1<<53 + 2, 1<<53 + 3, 1<<54 + 2, 1<<54 + 6, 1<<62 + 1, 1<<63 - 1, 1<<63 - 512, 1<<63 - 513} {
		want := nearest(bigOf(whole(n)))
		s := []held{{10, snapshot(counter("c", whole(n)), histogram("h", 0, n), histogram("i", 1, n), summary("s", n, minus, minus, 0))}}
		if n == 0 {
			s[0].s.Values[3] = summary("s", 0, 0, 0, 0)
		}
		r := rung(t, s)
		for _, text := range []string{"total(c, 1)", "rate(c, 1)", "count(h, 1)", "sum(i, 1)", "count(i, 1)", "count(s, 1)"} {
			wantsNumber(t, r, 10, text, want)
		}
		wantsNumber(t, r, 10, "sum(h, 1)", 0)
	}
	for _, n := range []api.Int{{Lo: math.MaxUint64}, {Hi: 1}, {Hi: 1, Lo: 1}, {Hi: 1, Lo: 1 << 11}, {Hi: 1, Lo: 1<<11 + 1}, {Hi: 1, Lo: 3 << 11}, {Hi: math.MaxInt64, Lo: math.MaxUint64}, {Hi: math.MaxInt64 - 512}} {
		r := rung(t, []held{{10, snapshot(counter("c", n))}})
		wantsNumber(t, r, 10, "total(c, 1)", nearest(bigOf(n)))
		wantsNumber(t, r, 10, "rate(c, 3)", nearest(bigOf(n))/3)
	}
}

// TestRates: by the float nearest to the window's length.
func TestRates(t *testing.T) {
	r := rung(t, []held{{10, snapshot(counter("c", whole(30)))}})
	for _, window := range []int64{1, 2, 3, 7, 60, 1<<53 - 1, 1 << 53, 1<<53 + 1, 1<<53 + 3, far - 1, far} {
		wantsAnswer(t, r, 10, of(api.RuleRate, "c", window), api.Answer{X: 30 / nearest(bigOf(whole(uint64(window))))}, api.OK)
	}
	// Two snapshots: the window's length counts, not how far their times lie apart.
	r = rung(t, []held{{10, snapshot(counter("c", whole(30)))}, {12, snapshot(counter("c", whole(12)))}})
	wantsNumber(t, r, 15, "rate(c, 12)", 3.5)
	wantsNumber(t, r, 15, "rate(c, 4)", 3)
}

// TestSummaries: sums, least and greatest ones as they are, bit by bit.
func TestSummaries(t *testing.T) {
	r := rung(t, []held{{10, snapshot(summary("s", 1, minus, minus, 0), summary("t", 5, math.MaxFloat64, -math.MaxFloat64, -5e-324))}, {20, snapshot(summary("s", 1, minus, 0, 0), summary("t", 0, 0, 0, 0))}})
	wantsNumber(t, r, 10, "sum(s, 1)", minus)
	wantsNumber(t, r, 10, "least(s, 1)", minus)
	wantsNumber(t, r, 10, "greatest(s, 1)", 0)
	wantsNumber(t, r, 20, "least(s, 1)", 0)
	wantsNumber(t, r, 20, "least(s, 11)", minus)
	wantsNumber(t, r, 20, "sum(t, 11)", math.MaxFloat64)
	wantsNumber(t, r, 20, "least(t, 11)", -math.MaxFloat64)
	wantsNumber(t, r, 20, "greatest(t, 11)", -5e-324)
	wantsNone(t, r, 20, "greatest(t, 10)", api.ErrEmpty)
	wantsNumber(t, r, 20, "sum(t, 10)", 0)
}

// TestQuantiles: of all values of the window, the greatest one of the bucket.
func TestQuantiles(t *testing.T) {
	r := rung(t, []held{{10, snapshot(histogram("h", 3, 1))}, {20, snapshot(histogram("h", 5, 1))}, {30, snapshot(histogram("h", 7, 1))}})
	for text, want := range map[string]float64{
		"quantile(0/1, h, 100)": 3, "quantile(1/2, h, 100)": 5, "quantile(1/1, h, 100)": 7, "quantile(1/3, h, 100)": 3, "quantile(2/3, h, 100)": 5, "quantile(3074457345618258603/9223372036854775807, h, 100)": 5, "quantile(9223372036854775807/9223372036854775807, h, 100)": 7,
		"quantile(1/2, h, 20)": 5, "quantile(1/2, h, 10)": 7, "quantile(1/9223372036854775807, h, 20)": 5,
	} {
		wantsNumber(t, r, 30, text, want)
	}
	// With the precision 3 the value 100 falls into the bucket of 96 to 103.
	far := rung(t, []held{{10, api.Snapshot{Precision: 3, Values: []api.Value{{Desc: api.Desc{Kind: api.Histogram, Name: "h"}, Total: whole(100), Counts: []api.Count{{Index: 36, N: 1}}, N: 1}}}}})
	wantsNumber(t, far, 10, "quantile(1/2, h, 1)", 103)
}

// TestGreatestQuantile: the last bucket's is 2^63 - 1, whose nearest float is 2^63.
func TestGreatestQuantile(t *testing.T) {
	v := api.Value{Desc: api.Desc{Kind: api.Histogram, Name: "h"}, Total: whole(math.MaxInt64), N: 1}
	for i := range 1000 {
		v.Counts = []api.Count{{Index: i, N: 1}}
		if e, _ := snap.Check(snapshot(v)); e == api.OK {
			wantsNumber(t, rung(t, []held{{10, snapshot(v)}}), 10, "quantile(1/2, h, 1)", 0x1p63)
			return
		}
	}
	t.Error("no such bucket")
}

// TestMostNodesAreWorkedOut: of as many as there may be, in both directions.
func TestMostNodesAreWorkedOut(t *testing.T) {
	r := chapter(t)
	for _, left := range []bool{false, true} {
		wantsAnswer(t, r, 12, sums(255, left), api.Answer{X: 256}, api.OK)
	}
	wantsAnswer(t, r, 12, nots(509, yes()), api.Answer{Truth: true}, api.OK)
	wantsAnswer(t, r, 12, nots(508, yes()), api.Answer{Truth: true, Is: true}, api.OK)
	x := of(api.RuleTotal, "a", 5)
	for range 255 {
		x = two(api.RulePlus, of(api.RuleTotal, "a", 5), x)
	}
	wantsAnswer(t, r, 12, x, api.Answer{X: 256 * 30}, api.OK)
}

func TestDrawnRulesOverDrawnRings(t *testing.T) {
	r := rand.New(rand.NewSource(226))
	told := map[api.Errno]int{}
	answers := map[api.Answer]int{}
	for range 2500 {
		all := someHeld(r)
		g := rung(t, all)
		for range 16 {
			now := one(r, 0, 10, 20, 40, far, -far, far-20, -far+20)
			if len(all) > 0 && r.Intn(3) > 0 {
				now = min(far, max(-far, one(r, all...).at+int64(r.Intn(9))-1))
			}
			x := anyRule(r)
			want, wantE := worth(all, now, x)
			wantsAnswer(t, g, now, x, want, wantE)
			told[wantE]++
			if want.Truth {
				answers[want]++
			}
		}
	}
	for _, e := range []api.Errno{api.OK, api.ErrEmpty, api.ErrAbsent, api.ErrKind, api.ErrMany, api.ErrRange} {
		if told[e] < 20 {
			t.Errorf("%v came %d times", e, told[e])
		}
	}
	if len(answers) != 2 {
		t.Errorf("too little was told: %v", answers)
	}
}

// TestRingIsNotChanged: neither what is in it, nor what it tells of the next rule.
func TestRingIsNotChanged(t *testing.T) {
	r := rand.New(rand.NewSource(227))
	for range 300 {
		all := someHeld(r)
		g, apart := rung(t, all), rung(t, all)
		for range 8 {
			rules.Eval(g, one(r, 0, 20, 40, far), anyRule(r))
			rules.Eval(g, one(r, 0, far+1), spoiled(r, anyRule(r)))
		}
		if g.Len() != len(all) || !slices.Equal(g.Times(), apart.Times()) {
			t.Fatalf("the times are %v now", g.Times())
		}
		for _, h := range all {
			s, _, e := g.Window(h.at-1, h.at)
			if h.at > math.MinInt64 && (e != api.OK || !snap.Same(s, h.s)) {
				t.Fatalf("the snapshot of %d is %v, %v now", h.at, s, e)
			}
		}
	}
}

// TestRuleThatMayNotBeIsNotWorkedOut, not even where the second one would be left alone.
func TestRuleThatMayNotBeIsNotWorkedOut(t *testing.T) {
	wantsError(t, "second", two(api.RuleOr, yes(), number(1)), api.ErrType)
	wantsError(t, "second", two(api.RuleAnd, no(), two(api.RuleLess, number(1), api.Rule{})), api.ErrKind)
	wantsError(t, "second", two(api.RuleOr, yes(), two(api.RuleLess, number(1), of(api.RuleTotal, "a", 0))), api.ErrArg)
}
