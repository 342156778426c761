package rules_test

import (
	"math"
	"math/rand"
	"strings"
	"testing"

	"gnomon/api"
	"gnomon/rules"
)

// P22.2.

func wantsText(t *testing.T, x api.Rule, want string) {
	t.Helper()
	if s, e := rules.Print(x); s != want || e != api.OK {
		t.Errorf("Print tells %q, %v, want %q", s, e, want)
	}
}

func TestTextOfEachKind(t *testing.T) {
	for i, want := range []string{
		"1", "total(a, 5)", "rate(a, 5)", "count(a, 5)", "sum(a, 5)", "least(a, 5)", "greatest(a, 5)", "quantile(1/2, h, 5)",
		"(1 + 2)", "(1 - 2)", "(1 * 2)", "(1 / 2)", "(1 < 2)", "(1 <= 2)", "(1 > 2)", "(1 >= 2)", "(1 == 2)", "(1 != 2)",
		"((1 < 2) and (2 < 1))", "((1 < 2) or (2 < 1))", "not((1 < 2))",
	} {
		wantsText(t, plain(i+1), want)
	}
}

func TestTextsOfTheChapter(t *testing.T) {
	wantsText(t, number(0.5), "0.5")
	wantsText(t, number(minus), "-0")
	wantsText(t, number(1e21), "1e21")
	wantsText(t, of(api.RuleTotal, "a", 60, "x", "1"), `total(a{x="1"}, 60)`)
	wantsText(t, quantile(99, 100, "h", 10), "quantile(99/100, h, 10)")
	wantsText(t, two(api.RuleAnd, two(api.RuleMore, of(api.RuleRate, "a", 60), number(5)), not(two(api.RuleAtMost, number(1), number(2)))), "((rate(a, 60) > 5) and not((1 <= 2)))")
}

func TestTextsOfNumbers(t *testing.T) {
	for x, want := range map[float64]string{0: "0", 1: "1", -1: "-1", -0.1: "-0.1", 1e20: "100000000000000000000", 1e-7: "1e-7", math.MaxFloat64: "1.7976931348623157e308", -5e-324: "-5e-324"} {
		wantsText(t, number(x), want)
		wantsText(t, two(api.RuleMinus, number(x), number(x)), "("+want+" - "+want+")")
	}
}

func TestTextsOfSeriesAndWholeNumbers(t *testing.T) {
	wantsText(t, of(api.RuleSum, "Total:x_1", far), "sum(Total:x_1, 4611686018427387904)")
	wantsText(t, of(api.RuleLeast, "a", 1, "x", "q\"\\\n, ", "y", ""), `least(a{x="q\"\\\n, ",y=""}, 1)`)
	wantsText(t, quantile(0, 1, "h", 1, "x", "ü, 5)"), `quantile(0/1, h{x="ü, 5)"}, 1)`)
	wantsText(t, quantile(most, most, "h", 10), "quantile(9223372036854775807/9223372036854775807, h, 10)")
	wantsText(t, quantile(0, most, "h", 10), "quantile(0/9223372036854775807, h, 10)")
	// A quotient is told as it is: it is not brought down.
	wantsText(t, quantile(50, 100, "h", 10), "quantile(50/100, h, 10)")
}

func TestTextOfNestedRules(t *testing.T) {
	wantsText(t, nots(3, yes()), "not(not(not((1 < 2))))")
	wantsText(t, sums(3, true), "(((1 + 1) + 1) + 1)")
	wantsText(t, sums(3, false), "(1 + (1 + (1 + 1)))")
	wantsText(t, two(api.RuleOr, not(yes()), two(api.RuleAnd, no(), yes())), "(not((1 < 2)) or ((2 < 1) and (1 < 2)))")
}

// lengthy tells a rule whose text has just so many bytes, some thousands at least.
func lengthy(n int) api.Rule {
	value := strings.Repeat("v", 500)
	x := number(1)
	for n-len(textOf(x)) > 1000 {
		x = two(api.RulePlus, x, of(api.RuleTotal, "a", 1, "x", value))
	}
	bare := two(api.RulePlus, x, of(api.RuleTotal, "a", 1, "x", ""))
	return two(api.RulePlus, x, of(api.RuleTotal, "a", 1, "x", strings.Repeat("w", n-len(textOf(bare)))))
}

func TestLongestText(t *testing.T) {
	for _, n := range []int{65535, 65536} {
		x := lengthy(n)
		if s, e := rules.Print(x); e != api.OK || len(s) != n || s != textOf(x) {
			t.Errorf("%d bytes: %v, %d bytes", n, e, len(s))
		}
	}
	for _, n := range []int{65537, 65538, 100000} {
		x := lengthy(n)
		if s, e := rules.Print(x); e != api.ErrBytes || s != "" {
			t.Errorf("%d bytes: %v, %d bytes", n, e, len(s))
		}
		// Such a rule may be, for all that.
		wantsError(t, n, two(api.RuleLess, x, number(1)), api.OK)
	}
}

// TestGreatestText: of as many nodes, labels and bytes as may be.
func TestGreatestText(t *testing.T) {
	l := manyLabels(16)
	for i := range 16 {
		l[2*i+1] = strings.Repeat("\n", 1024)
	}
	x := of(api.RuleTotal, "a", 1, l...)
	for range 8 {
		x = two(api.RulePlus, x, x)
	}
	if s, e := rules.Print(not(two(api.RuleLess, number(1), x.Args[0]))); e != api.ErrBytes || s != "" {
		t.Errorf("%v, %d bytes", e, len(s))
	}
}

// TestErrorIsAheadOfLength: of a rule that may not be its error is told, however long its text would be.
func TestErrorIsAheadOfLength(t *testing.T) {
	wantsError(t, "type", not(lengthy(70000)), api.ErrType)
	wantsError(t, "kind", two(api.RulePlus, lengthy(70000), api.Rule{}), api.ErrKind)
	wantsError(t, "window", two(api.RulePlus, lengthy(70000), of(api.RuleTotal, "a", 0)), api.ErrArg)
}

func TestTextsOfDrawnRules(t *testing.T) {
	r := rand.New(rand.NewSource(223))
	for range 20000 {
		x := anyRule(r)
		wantsText(t, x, textOf(x))
	}
}
