package rules_test

import (
	"math"
	"math/rand"
	"slices"
	"strings"
	"testing"

	"gnomon/api"
	"gnomon/ring"
	"gnomon/rules"
)

// P22.1, and its error in all the other calls.

// wantsError holds all calls that tell a rule's error to it.
func wantsError(t *testing.T, what any, x api.Rule, want api.Errno) {
	t.Helper()
	if e := rules.Check(x); e != want {
		t.Errorf("%v: Check tells %v, want %v", what, e, want)
	}
	is, e := rules.Type(x)
	if e != want || is != (want == api.OK && x.Kind >= api.RuleLess) {
		t.Errorf("%v: Type tells %v, %v, want %v", what, is, e, want)
	}
	if want == api.OK {
		return
	}
	if s, e := rules.Print(x); e != want || s != "" {
		t.Errorf("%v: Print tells %q, %v, want %v", what, s, e, want)
	}
	r, _ := ring.New(1)
	// At a moment at which nothing is worked out, too: its error is ahead of that.
	for _, now := range []int64{0, far + 1, math.MinInt64} {
		if a, e := rules.Eval(r, now, x); e != want || a != (api.Answer{}) {
			t.Errorf("%v: Eval tells %v, %v, want %v", what, a, e, want)
		}
	}
}

func TestEachKindMayBe(t *testing.T) {
	for kind := 1; kind <= 21; kind++ {
		wantsError(t, words[kind], plain(kind), api.OK)
	}
}

func TestKindsHaveTheirNumbers(t *testing.T) {
	for want, kind := range []int{
		api.RuleNone, api.RuleNumber, api.RuleTotal, api.RuleRate, api.RuleCount, api.RuleSum, api.RuleLeast, api.RuleGreatest, api.RuleQuantile, api.RulePlus, api.RuleMinus,
		api.RuleTimes, api.RuleBy, api.RuleLess, api.RuleAtMost, api.RuleMore, api.RuleAtLeast, api.RuleEqual, api.RuleUnlike, api.RuleAnd, api.RuleOr, api.RuleNot,
	} {
		if kind != want {
			t.Errorf("%s has the number %d", words[want], kind)
		}
	}
}

func TestNoSuchKind(t *testing.T) {
	for _, kind := range []int{0, -1, 22, 23, 256 + 1, 1 << 32, math.MinInt, math.MaxInt} {
		for _, x := range []api.Rule{{}, plain(api.RuleTotal), plain(api.RulePlus), plain(api.RuleNot), {X: math.NaN(), Name: "_sum", Window: -1}} {
			x.Kind = kind
			wantsError(t, kind, x, api.ErrKind)
			wantsError(t, kind, not(x), api.ErrKind)
		}
	}
}

// TestFieldsThatDontCount: a field that the table doesn't name is zero.
func TestFieldsThatDontCount(t *testing.T) {
	for kind := 1; kind <= 21; kind++ {
		f := fields[kind]
		for i, c := range []struct {
			counts bool
			change func(x *api.Rule)
		}{
			{f == "X", func(x *api.Rule) { x.X = 1 }},
			{f == "X", func(x *api.Rule) { x.X = minus }},
			{f == "X", func(x *api.Rule) { x.X = 5e-324 }},
			{false, func(x *api.Rule) { x.X = math.NaN() }},
			{f[0] == 'S', func(x *api.Rule) { x.Name = "b" }},
			{f[0] == 'S', func(x *api.Rule) { x.Labels = labels("x", "1") }},
			{false, func(x *api.Rule) {
				if f[0] != 'S' {
					x.Labels = labels("", "")
				} else {
					x.Window = 0
				}
			}},
			{f[0] == 'S', func(x *api.Rule) { x.Window = 1 }},
			{f == "SQ", func(x *api.Rule) { x.Num = 1 }},
			{f == "SQ", func(x *api.Rule) { x.Den = 1 }},
			{false, func(x *api.Rule) { x.Num = -1 }},
			{false, func(x *api.Rule) { x.Den = -1 }},
			{false, func(x *api.Rule) { x.Args = append(x.Args, number(1)) }},
			{false, func(x *api.Rule) { x.Args = append(x.Args, yes()) }},
			{true, func(x *api.Rule) { x.Labels = append([]api.Label{}, x.Labels...) }},
			{true, func(x *api.Rule) { x.Args = append([]api.Rule{}, x.Args...) }},
		} {
			x := plain(kind)
			c.change(&x)
			want := api.ErrArg
			if c.counts {
				want = api.OK
			}
			if e := rules.Check(x); e != want || e != errorOf(x) {
				t.Errorf("%s, %d: %v, want %v", words[kind], i, e, want)
			}
		}
	}
}

func TestNumberOfArgs(t *testing.T) {
	for kind := 1; kind <= 21; kind++ {
		for n := range 4 {
			x := plain(kind)
			arg := number(1)
			if kind >= api.RuleAnd {
				arg = yes()
			}
			x.Args = slices.Repeat([]api.Rule{arg}, n)
			want := api.ErrArg
			if n == 0 && kind <= api.RuleQuantile || n == 1 && kind == api.RuleNot || n == 2 && kind > api.RuleQuantile && kind < api.RuleNot {
				want = api.OK
			}
			wantsError(t, words[kind], x, want)
		}
	}
}

func TestNumbers(t *testing.T) {
	for _, x := range []float64{0, minus, 1, -1, 0.1, 5e-324, -5e-324, 0x1p960, 0x1p1000, math.MaxFloat64, -math.MaxFloat64} {
		wantsError(t, x, number(x), api.OK)
	}
	for _, x := range []float64{math.NaN(), math.Inf(1), math.Inf(-1), math.Float64frombits(0xfff8000000000001), math.Float64frombits(0x7ff0000000000001)} {
		wantsError(t, x, number(x), api.ErrArg)
	}
}

func TestWindows(t *testing.T) {
	for kind := api.RuleTotal; kind <= api.RuleQuantile; kind++ {
		for window, want := range map[int64]api.Errno{
			1: api.OK, 2: api.OK, far - 1: api.OK, far: api.OK, 0: api.ErrArg, -1: api.ErrArg, far + 1: api.ErrArg, -far: api.ErrArg, most: api.ErrArg, math.MinInt64: api.ErrArg,
		} {
			x := plain(kind)
			x.Window = window
			wantsError(t, window, x, want)
		}
	}
}

func TestShares(t *testing.T) {
	for _, c := range []struct {
		num, den int64
		want     api.Errno
	}{
		{0, 1, api.OK}, {1, 1, api.OK}, {0, most, api.OK}, {most, most, api.OK}, {most - 1, most, api.OK}, {1, 2, api.OK}, {2, 4, api.OK},
		{0, 0, api.ErrArg}, {1, 0, api.ErrArg}, {0, -1, api.ErrArg}, {-1, -1, api.ErrArg}, {-2, -1, api.ErrArg}, {-1, 1, api.ErrArg}, {2, 1, api.ErrArg}, {3, 2, api.ErrArg}, {most, most - 1, api.ErrArg},
		{math.MinInt64, 1, api.ErrArg}, {0, math.MinInt64, api.ErrArg}, {math.MinInt64, math.MinInt64, api.ErrArg}, {-1, most, api.ErrArg},
	} {
		wantsError(t, c, quantile(c.num, c.den, "h", 5), c.want)
	}
}

// manyLabels tells n labels that stand in order.
func manyLabels(n int) []string {
	var out []string
	for i := range n {
		out = append(out, "m"+string(rune('a'+i)), "v")
	}
	return out
}

func TestSeries(t *testing.T) {
	long := strings.Repeat("x", api.MaxText)
	for kind := api.RuleTotal; kind <= api.RuleQuantile; kind++ {
		for i, c := range []struct {
			name string
			l    []string
			want api.Errno
		}{
			{"a", nil, api.OK}, {"a:b", labelled("x", ""), api.OK}, {strings.Repeat("a", 64), nil, api.OK}, {"a", manyLabels(16), api.OK}, {"a", labelled("x", long), api.OK}, {"a", labelled("x", "1", "y", "1"), api.OK},
			{"", nil, api.ErrName}, {"1", nil, api.ErrName}, {"a b", nil, api.ErrName}, {"a_sum", nil, api.ErrName}, {"a_count", nil, api.ErrName}, {"a_bucket", nil, api.ErrName}, {strings.Repeat("a", 65), nil, api.ErrName},
			{"a", labelled("le", ""), api.ErrName}, {"a", labelled("quantile", ""), api.ErrName}, {"a", labelled("__x", ""), api.ErrName}, {"a", labelled("", ""), api.ErrName}, {"a", labelled("a:b", ""), api.ErrName},
			{"a", labelled("x", long+"x"), api.ErrBytes}, {"a", labelled("x", "\xff"), api.ErrUtf}, {"a", manyLabels(17), api.ErrMany}, {"a", labelled("x", "1", "x", "2"), api.ErrTwice}, {"a", labelled("y", "1", "x", "2"), api.ErrOrder},
			// The first one of several.
			{"", manyLabels(17), api.ErrName}, {"a", slices.Concat(labelled("le", ""), manyLabels(16)), api.ErrMany}, {"a", labelled("x", "\xff", "x", long+"x"), api.ErrUtf}, {"a", labelled("x", "\xff"+long), api.ErrBytes}, {"a", labelled("y", "", "x", "\xff"), api.ErrUtf}, {"a", labelled("y", "", "y", "", "x", ""), api.ErrTwice},
		} {
			x := plain(kind)
			x.Name, x.Labels = c.name, labels(c.l...)
			if wantsError(t, i, x, c.want); errorOf(x) != c.want {
				t.Errorf("%d: the model tells %v", i, errorOf(x))
			}
		}
	}
}

func labelled(l ...string) []string { return l }

// TestTypes: each kind asks for numbers or for truths, in each place.
func TestTypes(t *testing.T) {
	for kind := api.RulePlus; kind <= api.RuleNot; kind++ {
		for i := range plain(kind).Args {
			for arg := 1; arg <= 21; arg++ {
				x := plain(kind)
				x.Args[i] = plain(arg)
				want := api.ErrType
				if (arg >= api.RuleLess) == (kind >= api.RuleAnd) {
					want = api.OK
				}
				wantsError(t, words[kind]+" of "+words[arg], x, want)
				// Deep within, too.
				if kind >= api.RuleLess {
					wantsError(t, words[kind]+" of "+words[arg], two(api.RuleOr, yes(), not(x)), want)
				} else {
					wantsError(t, words[kind]+" of "+words[arg], two(api.RuleLess, two(api.RuleTimes, number(1), x), number(1)), want)
				}
			}
		}
	}
}

// sums tells a rule of n Plus within one another, to the left or to the right: of 2 n + 1 nodes.
func sums(n int, left bool) api.Rule {
	x := number(1)
	for range n {
		if left {
			x = two(api.RulePlus, x, number(1))
		} else {
			x = two(api.RulePlus, number(1), x)
		}
	}
	return x
}

func TestMostNodes(t *testing.T) {
	for n, want := range map[int]api.Errno{511: api.OK, 512: api.OK, 513: api.ErrMany, 514: api.ErrMany, 1000: api.ErrMany} {
		wantsError(t, n, nots(n-3, yes()), want)
		// (1 + 1) < 1, with as many sums as there must be, and one Not more, if that is not even.
		for _, left := range []bool{false, true} {
			x := two(api.RuleLess, sums((n-3)/2, left), number(1))
			wantsError(t, n, nots(n-len(flat(x)), x), want)
		}
	}
}

// TestManyNodesAreFirst: of more than MaxNodes nothing else is told, whatever it is.
func TestManyNodesAreFirst(t *testing.T) {
	for i, x := range []api.Rule{
		{}, {Kind: 99}, number(math.NaN()), of(api.RuleTotal, "", -1), two(api.RuleAnd, number(1), number(2)), not(number(1)),
	} {
		x.Args = append(x.Args, sums(255, true), number(1))
		for len(flat(x)) < 513 {
			wantsError(t, i, x, errorOf(x))
			x.Args = append(x.Args, number(1))
		}
		wantsError(t, i, x, api.ErrMany)
	}
	wide := api.Rule{Kind: api.RuleNot, Args: make([]api.Rule, 100000)}
	wantsError(t, "wide", wide, api.ErrMany)
	wide.Args = wide.Args[:511]
	wantsError(t, "wide", wide, api.ErrArg)
	wide.Args = wide.Args[:512]
	wantsError(t, "wide", wide, api.ErrMany)
	wantsError(t, "deep", nots(65000, number(1)), api.ErrMany)
}

// TestNodeByNode: of two nodes that may not be, the one that is gone through first is told; ErrType is behind all.
func TestNodeByNode(t *testing.T) {
	wrong := []struct {
		x api.Rule
		e api.Errno
	}{
		{api.Rule{}, api.ErrKind}, {number(math.NaN()), api.ErrArg}, {of(api.RuleTotal, "1", 5), api.ErrName}, {of(api.RuleTotal, "a", 5, "x", "\xff"), api.ErrUtf}, {of(api.RuleTotal, "a", 5, "x", strings.Repeat("v", 1025)), api.ErrBytes},
		{of(api.RuleTotal, "a", 5, manyLabels(17)...), api.ErrMany}, {of(api.RuleTotal, "a", 5, "x", "", "x", ""), api.ErrTwice}, {of(api.RuleTotal, "a", 5, "y", "", "x", ""), api.ErrOrder},
	}
	for _, a := range wrong {
		for _, b := range wrong {
			wantsError(t, a.e, two(api.RulePlus, a.x, b.x), a.e)
			wantsError(t, a.e, two(api.RulePlus, two(api.RulePlus, number(1), a.x), b.x), a.e)
			wantsError(t, a.e, two(api.RulePlus, a.x, two(api.RulePlus, b.x, number(1))), a.e)
			wantsError(t, a.e, two(api.RulePlus, two(api.RuleLess, number(1), two(api.RulePlus, number(1), a.x)), b.x), a.e)
		}
		// A node is ahead of its Args.
		for _, b := range wrong {
			x := b.x
			x.Args = []api.Rule{a.x}
			want := api.ErrArg
			if b.e == api.ErrKind {
				want = api.ErrKind
			}
			wantsError(t, want, x, want)
		}
		wantsError(t, a.e, two(api.RuleAnd, number(1), a.x), a.e)
		wantsError(t, a.e, two(api.RulePlus, not(number(1)), a.x), a.e)
		wantsError(t, a.e, not(a.x), a.e)
	}
}

// TestNodeOfSeveralFaults: of one node ErrKind is ahead of ErrArg, and that ahead of what label.Check tells.
func TestNodeOfSeveralFaults(t *testing.T) {
	x := api.Rule{X: math.NaN(), Name: "1", Labels: labels("le", "\xff"), Window: -1, Num: 2, Den: 1, Args: []api.Rule{{}}}
	wantsError(t, "kind", x, api.ErrKind)
	x.Kind = api.RuleQuantile
	for i, mend := range []func(){
		func() { x.X = minus }, func() { x.X = 0 }, func() { x.Window = 1 }, func() { x.Num = 1 }, func() { x.Args = nil },
	} {
		wantsError(t, i, x, api.ErrArg)
		mend()
	}
	wantsError(t, "name", x, api.ErrName)
	x.Name = "a"
	wantsError(t, "label's name", x, api.ErrName)
	x.Labels[0].Name = "x"
	wantsError(t, "value", x, api.ErrUtf)
	x.Labels[0].Value = ""
	wantsError(t, "all is well", x, api.OK)
}

func TestCheckOfDrawnRules(t *testing.T) {
	r := rand.New(rand.NewSource(221))
	told := map[api.Errno]int{}
	for i := range 20000 {
		x := anyRule(r)
		for range r.Intn(4) {
			x = spoiled(r, x)
		}
		want := errorOf(x)
		wantsError(t, i, x, want)
		told[want]++
	}
	for _, e := range []api.Errno{api.OK, api.ErrKind, api.ErrArg, api.ErrName, api.ErrBytes, api.ErrUtf, api.ErrTwice, api.ErrOrder, api.ErrType} {
		if told[e] < 20 {
			t.Errorf("%v came %d times", e, told[e])
		}
	}
}

// P22.1: Same.

func wantsSame(t *testing.T, what any, a, b api.Rule, want bool) {
	t.Helper()
	if rules.Same(a, b) != want || rules.Same(b, a) != want {
		t.Errorf("%v: Same tells %v and %v, want %v, of %v and %v", what, rules.Same(a, b), rules.Same(b, a), want, a, b)
	}
}

// TestSameInEachField: whatever the rule is, one that may not be too.
func TestSameInEachField(t *testing.T) {
	full := func() api.Rule {
		return api.Rule{Kind: 77, X: 1, Name: "n", Labels: labels("y", "1", "x", "2"), Window: -1, Num: 5, Den: 4, Args: []api.Rule{number(1), {Kind: -1, Args: []api.Rule{{}, {Name: "m"}}}}}
	}
	wantsSame(t, "itself", full(), full(), true)
	for i, change := range []func(x *api.Rule){
		func(x *api.Rule) { x.Kind = 78 }, func(x *api.Rule) { x.X = 2 }, func(x *api.Rule) { x.X = math.NaN() }, func(x *api.Rule) { x.Name = "" }, func(x *api.Rule) { x.Name = "N" },
		func(x *api.Rule) { x.Labels = nil }, func(x *api.Rule) { x.Labels = x.Labels[:1] }, func(x *api.Rule) { slices.Reverse(x.Labels) }, func(x *api.Rule) { x.Labels[1].Name = "z" }, func(x *api.Rule) { x.Labels[1].Value = "" },
		func(x *api.Rule) { x.Window = 1 }, func(x *api.Rule) { x.Num = 4 }, func(x *api.Rule) { x.Den = 5 }, func(x *api.Rule) { x.Num, x.Den = x.Den, x.Num },
		func(x *api.Rule) { x.Args = nil }, func(x *api.Rule) { x.Args = x.Args[:1] }, func(x *api.Rule) { slices.Reverse(x.Args) }, func(x *api.Rule) { x.Args = append(x.Args, api.Rule{}) }, func(x *api.Rule) { x.Args[0].X = 2 },
		func(x *api.Rule) { x.Args[1].Args[1].Name = "" }, func(x *api.Rule) { x.Args[1].Args[0].Den = 1 }, func(x *api.Rule) { x.Args[1].Args[0].Labels = labels("", "") }, func(x *api.Rule) { x.Args[1].Args[1].Args = []api.Rule{{}} },
	} {
		x := full()
		change(&x)
		wantsSame(t, i, x, full(), false)
		wantsSame(t, i, x, x, true)
		wantsSame(t, i, not(x), not(full()), false)
	}
}

func TestSameFloats(t *testing.T) {
	wantsSame(t, "zeros", number(0), number(minus), false)
	wantsSame(t, "zeros", number(minus), number(minus), true)
	wantsSame(t, "NaNs", number(math.NaN()), number(math.Float64frombits(0xfff8000000000001)), true)
	wantsSame(t, "infinities", number(math.Inf(1)), number(math.Inf(-1)), false)
	wantsSame(t, "NaN and zero", number(math.NaN()), number(0), false)
	wantsSame(t, "within", not(number(0)), not(number(minus)), false)
}

func TestSameOfEmptyLists(t *testing.T) {
	wantsSame(t, "empty", api.Rule{Labels: []api.Label{}, Args: []api.Rule{}}, api.Rule{}, true)
	wantsSame(t, "empty", not(api.Rule{Args: make([]api.Rule, 0, 5)}), not(api.Rule{}), true)
	wantsSame(t, "not empty", api.Rule{Args: []api.Rule{{}}}, api.Rule{}, false)
}

func TestSameOfDeepRules(t *testing.T) {
	wantsSame(t, "deep", nots(65000, yes()), nots(65000, yes()), true)
	wantsSame(t, "deep", nots(65000, yes()), nots(65000, no()), false)
	wantsSame(t, "deep", nots(65000, yes()), nots(64999, yes()), false)
}

func TestSameOfDrawnRules(t *testing.T) {
	r := rand.New(rand.NewSource(222))
	alike := 0
	for i := range 5000 {
		a := anyRule(r)
		b := spoiled(r, a)
		wantsSame(t, i, a, b, same(a, b))
		wantsSame(t, i, a, deep(a), true)
		c := anyRule(r)
		wantsSame(t, i, a, c, same(a, c))
		if same(a, b) {
			alike++
		}
	}
	if alike < 100 {
		t.Errorf("too few were alike: %d", alike)
	}
}
