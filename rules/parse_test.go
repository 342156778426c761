package rules_test

import (
	"math/rand"
	"strings"
	"testing"

	"gnomon/api"
	"gnomon/rules"
)

// P22.3.

// wantsRule holds a text to a rule.
func wantsRule(t *testing.T, text string, want api.Rule) {
	t.Helper()
	if x, e, at := rules.Parse(text); e != api.OK || at != 0 || !same(x, want) {
		t.Errorf("Parse(%.200q) tells %v, %v, %d, want %v", text, x, e, at, want)
	}
}

// wantsFault holds a text to an error and its place, and the second reader to these, too.
func wantsFault(t *testing.T, text string, want api.Errno, place int) {
	t.Helper()
	if x, e, at := rules.Parse(text); e != want || at != place || !isZero(x) {
		t.Errorf("Parse(%.200q) tells %v, %v at %d, want %v at %d", text, x, e, at, want, place)
	}
	if e, at := model(text); e != want || at != place {
		t.Errorf("the model of %.200q tells %v at %d, want %v at %d", text, e, at, want, place)
	}
}

// agrees holds what is told of a text against the second reader; what is taken is that rule's text. It tells the error.
func agrees(t *testing.T, text string) api.Errno {
	t.Helper()
	x, e, at := rules.Parse(text)
	wantE, wantAt := model(text)
	if e != wantE || at != wantAt {
		t.Errorf("Parse(%.200q) tells %v at %d, want %v at %d", text, e, at, wantE, wantAt)
		return e
	}
	if e != api.OK {
		if !isZero(x) {
			t.Errorf("Parse(%.200q) tells %v beside %v", text, x, e)
		}
		return e
	}
	if was := errorOf(x); was != api.OK || textOf(x) != text {
		t.Errorf("Parse(%.200q) tells %v, whose error is %v", text, x, was)
	}
	if s, e := rules.Print(x); e != api.OK || s != text {
		t.Errorf("Print of Parse(%.200q) tells %q, %v", text, s, e)
	}
	return e
}

func TestEachKindIsRead(t *testing.T) {
	for kind := 1; kind <= 21; kind++ {
		wantsRule(t, textOf(plain(kind)), plain(kind))
	}
}

func TestRulesThatAreRead(t *testing.T) {
	wantsRule(t, "(1 + 2)", two(api.RulePlus, number(1), number(2)))
	wantsRule(t, "-0", number(minus))
	wantsRule(t, "0", number(0))
	wantsRule(t, "(-1 - -1)", two(api.RuleMinus, number(-1), number(-1)))
	wantsRule(t, "1.5e-300", number(1.5e-300))
	wantsRule(t, "1.7976931348623157e308", number(1.7976931348623157e308))
	wantsRule(t, "total(a, 4611686018427387904)", of(api.RuleTotal, "a", far))
	wantsRule(t, "quantile(0/1, h, 1)", quantile(0, 1, "h", 1))
	wantsRule(t, "quantile(9223372036854775807/9223372036854775807, h, 1)", quantile(most, most, "h", 1))
	wantsRule(t, "((rate(a, 60) > 5) and not((1 <= 2)))", two(api.RuleAnd, two(api.RuleMore, of(api.RuleRate, "a", 60), number(5)), not(two(api.RuleAtMost, number(1), number(2)))))
	// Names of series that are words of rules.
	wantsRule(t, "total(total, 5)", of(api.RuleTotal, "total", 5))
	wantsRule(t, `not((sum(not{and="or"}, 5) == count(e, 1)))`, not(two(api.RuleEqual, of(api.RuleSum, "not", 5, "and", "or"), of(api.RuleCount, "e", 1))))
}

// TestFaultsOfTheChapter: the texts of its examples.
func TestFaultsOfTheChapter(t *testing.T) {
	wantsFault(t, "1 + 2", api.ErrForm, 1)
	wantsFault(t, "(1+2)", api.ErrForm, 2)
	wantsFault(t, "(1 and 2)", api.ErrType, 0)
	wantsFault(t, "total(a, 0)", api.ErrArg, 9)
	wantsFault(t, "total(a_sum, 5)", api.ErrName, 6)
	wantsFault(t, "quantile(3/2, h, 5)", api.ErrArg, 11)
	wantsFault(t, "total(a,5)", api.ErrForm, 7)
	wantsFault(t, "01", api.ErrForm, 0)
	wantsFault(t, "avg(a, 5)", api.ErrForm, 0)
	wantsFault(t, "", api.ErrForm, 0)
	wantsFault(t, "not(1)", api.ErrType, 0)
}

// TestWhereARuleMustStand: only four kinds of bytes begin one.
func TestWhereARuleMustStand(t *testing.T) {
	for c := range 256 {
		s := string([]byte{byte(c)})
		if strings.Contains("0123456789", s) {
			wantsRule(t, s, number(float64(c-'0')))
			continue
		}
		at := 0
		if s == "(" {
			at = 1
		}
		wantsFault(t, s, api.ErrForm, at)
		if s != "-" {
			wantsFault(t, s+"1", api.ErrForm, at*2)
		}
		wantsFault(t, "("+s, api.ErrForm, 1+at)
		wantsFault(t, "(1 < "+s, api.ErrForm, 5+at)
		wantsFault(t, "not("+s, api.ErrForm, 4+at)
	}
	for _, text := range []string{" 1", "+1", ".5", "+Inf", "NaN", "Total(a, 5)", "_a", "\n", "ü", ")", "[1]"} {
		wantsFault(t, text, api.ErrForm, 0)
	}
}

func TestFaultsOfNumbers(t *testing.T) {
	for _, row := range []string{"-", "--1", "-Inf", "1.0", "1.", "1e5", "1e+21", "1e400", "00", "-01", "1e21e", "1-1", "1.5.", "1e-", "5e-325", "-e", "0.10000000000000001", "-.5", "1e021", "100000000000000000000000"} {
		wantsFault(t, row, api.ErrForm, 0)
		wantsFault(t, "("+row, api.ErrForm, 1)
		wantsFault(t, "(2 * "+row+")", api.ErrForm, 5)
	}
	// The row ends at another byte, which is what is wrong then.
	wantsFault(t, "1x", api.ErrForm, 1)
	wantsFault(t, "1E5", api.ErrForm, 1)
	wantsFault(t, "-0 ", api.ErrForm, 2)
	wantsFault(t, "1,5", api.ErrForm, 1)
	wantsFault(t, "(1)", api.ErrForm, 2)
	wantsFault(t, "1/2", api.ErrForm, 1)
}

func TestFaultsOfWords(t *testing.T) {
	for _, word := range []string{"t", "tota", "totals", "note", "and", "or", "quantil", "leastt", "e", "number", "none", "ratecount", "inf", "nan"} {
		wantsFault(t, word, api.ErrForm, 0)
		wantsFault(t, word+"(a, 5)", api.ErrForm, 0)
		wantsFault(t, "not("+word+"(1))", api.ErrForm, 4)
	}
	for _, word := range strings.Fields("total rate count sum least greatest quantile not") {
		wantsFault(t, word, api.ErrForm, len(word))
		for _, behind := range []string{" (a, 5)", "1", "T(a, 5)", ")", "{", ", ", "\x00"} {
			wantsFault(t, word+behind, api.ErrForm, len(word))
		}
	}
	wantsFault(t, "not(1 < 2)", api.ErrForm, 5)
	wantsFault(t, "not((1 < 2)", api.ErrForm, 11)
	wantsFault(t, "not((1 < 2) )", api.ErrForm, 11)
	wantsFault(t, "not()", api.ErrForm, 4)
	wantsFault(t, "not((1 < 2), (1 < 2))", api.ErrForm, 11)
}

// TestFaultsOfShares: N, `/`, D and `, `.
func TestFaultsOfShares(t *testing.T) {
	for _, row := range []string{"", "00", "01", "-1", "+1", " 1", "9223372036854775808", "18446744073709551617", strings.Repeat("9", 400), "0x1", "x"} {
		at := 9
		if row == "0x1" {
			at = 10
		}
		wantsFault(t, "quantile("+row+"/2, h, 5)", api.ErrForm, at)
		if row != "0x1" {
			wantsFault(t, "quantile(0/"+row+", h, 5)", api.ErrForm, 11)
		}
	}
	for text, at := range map[string]int{
		"quantile(0/0, h, 5)": 11, "quantile(1/0, h, 5)": 11, "quantile(2/1, h, 5)": 11, "quantile(10/9, h, 5)": 12, "quantile(9223372036854775807/9223372036854775806, h, 5)": 29, "quantile(5/0": 11, "quantile(5/4)": 11,
	} {
		wantsFault(t, text, api.ErrArg, at)
	}
	for text, at := range map[string]int{
		"quantile(": 9, "quantile(1": 10, "quantile(1/": 11, "quantile(1/2": 12, "quantile(1/2,": 13, "quantile(1 /2, h, 5)": 10, "quantile(1/ 2, h, 5)": 11, "quantile(1/2,h, 5)": 13, "quantile(1/2 , h, 5)": 12, "quantile(1,2, h, 5)": 10, "quantile(1.5/2, h, 5)": 10,
		"quantile(1/2.5, h, 5)": 12, "quantile(h, 5)": 9, "quantile(1/2)": 12,
	} {
		wantsFault(t, text, api.ErrForm, at)
	}
	// S begins behind the blank.
	wantsFault(t, "quantile(1/2, ", api.ErrName, 14)
	wantsFault(t, "quantile(1/2,  h, 5)", api.ErrName, 14)
	wantsFault(t, "quantile(1/2, h, 0)", api.ErrArg, 17)
}

func TestFaultsOfWindows(t *testing.T) {
	for _, word := range strings.Fields("total rate count sum least greatest quantile") {
		begin := word + "("
		if word == "quantile" {
			begin += "1/2, "
		}
		at := len(begin) + 3
		for _, row := range []string{"", "00", "05", "-1", "+5", " 5", "x", "9223372036854775808", "18446744073709551617", strings.Repeat("1", 100), "\""} {
			wantsFault(t, begin+"a, "+row+")", api.ErrForm, at)
		}
		for _, row := range []string{"0", "4611686018427387905", "9223372036854775807"} {
			wantsFault(t, begin+"a, "+row+")", api.ErrArg, at)
			wantsFault(t, begin+"a, "+row, api.ErrArg, at)
		}
		for _, behind := range []string{"", " ", ".0)", ", ", "(", "a"} {
			wantsFault(t, begin+"a, 5"+behind, api.ErrForm, at+1)
		}
		wantsFault(t, begin+"a, 5))", api.ErrForm, at+2)
		wantsFault(t, begin+"a", api.ErrForm, at-2)
		wantsFault(t, begin+"a,", api.ErrForm, at-2)
		wantsFault(t, begin+"a, ", api.ErrForm, at)
		wantsFault(t, begin+"a ,5)", api.ErrForm, at-2)
	}
}

// TestFaultsOfSeries: those of label.Parse, with their places.
func TestFaultsOfSeries(t *testing.T) {
	long := strings.Repeat("v", 1024)
	var many strings.Builder
	for i := range 16 {
		many.WriteString("m" + string(rune('a'+i)) + `="",`)
	}
	for _, c := range []struct {
		s  string
		e  api.Errno
		at int
	}{
		{"", api.ErrName, 0}, {"1a", api.ErrName, 0}, {" a", api.ErrName, 0}, {"a_bucket", api.ErrName, 0}, {"x_count{", api.ErrName, 0}, {strings.Repeat("a", 65), api.ErrName, 0}, {"{}", api.ErrName, 0}, {"ü", api.ErrName, 0},
		{"a b", api.ErrForm, 1}, {"a-b", api.ErrForm, 1}, {"a{}", api.ErrName, 2}, {`a{le="1"}`, api.ErrName, 2}, {`a{quantile="1"}`, api.ErrName, 2}, {`a{__x="1"}`, api.ErrName, 2}, {`a{x="1",}`, api.ErrName, 8}, {`a{x="1", y="2"}`, api.ErrForm, 7},
		{`a{x="1",x="1"}`, api.ErrTwice, 8}, {`a{y="1",x="1"}`, api.ErrOrder, 8}, {"a{" + many.String() + `mz=""}`, api.ErrMany, 2 + many.Len()}, {"a{x", api.ErrForm, 3}, {"a{x=", api.ErrForm, 4}, {"a{x=1}", api.ErrForm, 4}, {`a{x:y="1"}`, api.ErrForm, 3},
		{"a{x=\"\n\"}", api.ErrForm, 5}, {`a{x="\t"}`, api.ErrForm, 5}, {`a{x="12\x"}`, api.ErrForm, 7}, {`a{x="` + long + `v"}`, api.ErrBytes, 5}, {"a{x=\"1\xff\"}", api.ErrUtf, 5}, {`a{x="1"`, api.ErrForm, 7}, {`a{x="1"x`, api.ErrForm, 7}, {`a{x="1"}}`, api.ErrForm, 8}, {`a{x="1"} `, api.ErrForm, 8},
	} {
		wantsFault(t, "total("+c.s+", 5)", c.e, 6+c.at)
		wantsFault(t, "not((1 < quantile(1/2, "+c.s+", 0)))", c.e, 23+c.at)
		// A fault of the series is ahead of those of the window.
		wantsFault(t, "least("+c.s+", x", c.e, 6+c.at)
	}
	wantsFault(t, "total(", api.ErrName, 6)
	wantsFault(t, "total()", api.ErrName, 6)
	wantsFault(t, "total(, 5)", api.ErrName, 6)
	wantsFault(t, "total(a)", api.ErrForm, 7)
	wantsFault(t, "total(a 5)", api.ErrForm, 7)
}

// TestQuotesInSeries: what stands within quotes ends no series, whatever it is.
func TestQuotesInSeries(t *testing.T) {
	for written, said := range map[string]string{
		`, `: ", ", `, 5)`: ", 5)", `\", `: `", `, `\\`: `\`, `\\\", `: `\", `, `\n, \n`: "\n, \n", `\\\\`: `\\`, `}, 5)`: "}, 5)", `\"`: `"`, `\"\"`: `""`, `, \", \\`: `, ", \`, `(1 < 2)`: "(1 < 2)", ``: "", `,`: ",", ` `: " ", `ü, ü`: "ü, ü", `\\n, `: `\n, `,
	} {
		wantsRule(t, `total(a{x="`+written+`"}, 5)`, of(api.RuleTotal, "a", 5, "x", said))
		wantsRule(t, `quantile(1/2, a{x="`+written+`",y="`+written+`"}, 5)`, quantile(1, 2, "a", 5, "x", said, "y", said))
		wantsRule(t, `(sum(a{x="`+written+`"}, 5) - sum(a{x="`+written+`"}, 5))`, two(api.RuleMinus, of(api.RuleSum, "a", 5, "x", said), of(api.RuleSum, "a", 5, "x", said)))
	}
	// A quote that is not closed has all of the text in it: what is wrong is its end.
	wantsFault(t, `total(a{x="1}, 5)`, api.ErrForm, 17)
	wantsFault(t, `total(a{x="1\"}, 5)`, api.ErrForm, 19)
	wantsFault(t, `total(a{x="1\\\"}, 5)`, api.ErrForm, 21)
	wantsFault(t, `total(a{x="1, 5)`, api.ErrForm, 16)
	wantsFault(t, `total(a{x="`, api.ErrForm, 11)
	wantsFault(t, `total(a{x="\`, api.ErrForm, 11)
	wantsFault(t, `(total(a{x="1}, 5) + total(a{x="1"}, 5))`, api.ErrForm, 32)
	// One that is closed early leaves the comma outside.
	wantsFault(t, `total(a{x="1\\"", 5)`, api.ErrForm, 15)
	wantsFault(t, `total(a{x="1\\", 5)`, api.ErrForm, 15)
	wantsFault(t, `total(a{x="1"", 5)`, api.ErrForm, 13)
	// A backslash outside of quotes is nothing but a byte.
	wantsFault(t, `total(a\", 5)`, api.ErrForm, 7)
	wantsFault(t, `total(a{\"x", 5)`, api.ErrName, 8)
}

func TestFaultsOfTwoArgs(t *testing.T) {
	for text, at := range map[string]int{
		"(": 1, "(1": 2, "(1 ": 3, "(1 +": 4, "(1 + ": 5, "(1 + 2": 6, "(1 + 2 )": 6, "( 1 + 2)": 1, "(1  + 2)": 3, "(1 +  2)": 5, "(1 + 2 + 3)": 6, "(1 + 2))": 7, "(1 + 2) ": 7, "()": 1, "(1 )": 3, "((1 + 2)": 8, "((1 + 2))": 8, "(1 +2)": 4, "(1+ 2)": 2, "(1, 2)": 2,
		"(1\t+ 2)": 2, "(1 +\n2)": 4, "(1 + 2]": 6,
	} {
		wantsFault(t, text, api.ErrForm, at)
	}
	for _, sign := range []string{"", "=", "!", "=<", "=>", "<>", "++", "+-", "--", "<<", "===", "!==", "an", "nd", "andor", "and+", "+and", "not", "total", "x", "%", "^", "&&", "||", "AND", "And", "Or", "é", "1", "<=>", ">==", "*/", "e", "plus"} {
		wantsFault(t, "(1 "+sign+" 2)", api.ErrForm, 3)
		wantsFault(t, "(1 "+sign, api.ErrForm, 3)
	}
	// A row ends at the first byte that belongs to none: then that is what is wrong.
	wantsFault(t, "(1 -2)", api.ErrForm, 4)
	wantsFault(t, "(1 <1)", api.ErrForm, 4)
	wantsFault(t, "(1 <=_ 2)", api.ErrForm, 5)
	wantsFault(t, "(1 andX 2)", api.ErrForm, 6)
	// The first one is read first.
	wantsFault(t, "(avg + 01)", api.ErrForm, 1)
	wantsFault(t, "(total(a, 0) % total(_sum, 5))", api.ErrArg, 10)
	wantsFault(t, "(total(a, 1) + total(_sum, 5)", api.ErrName, 21)
}

// TestTypesAreLast: whatever else is wrong is told first, and the place of this is 0.
func TestTypesAreLast(t *testing.T) {
	for _, text := range []string{"not(1)", "(1 and 2)", "(1 or (1 < 2))", "((1 < 2) and 1)", "((1 < 2) + 1)", "(1 < (1 < 2))", "((1 < 2) == (1 < 2))", "(1 != not((1 < 2)))", "not(total(a, 5))", "not(not(quantile(1/2, h, 5)))", "(1 + (2 * (3 - not((1 < 2)))))"} {
		wantsFault(t, text, api.ErrType, 0)
		wantsFault(t, text+" ", api.ErrForm, len(text))
		wantsFault(t, text+")", api.ErrForm, len(text))
		wantsFault(t, text[:len(text)-1], api.ErrForm, len(text)-1)
		wantsFault(t, "("+text+" < total(a, 0))", api.ErrArg, len(text)+13)
		wantsFault(t, "not("+text+")", api.ErrType, 0)
	}
}

func TestMostNodesOfAText(t *testing.T) {
	for _, n := range []int{511, 512, 513, 514, 700} {
		x := nots(n-3, yes())
		text := textOf(x)
		switch n {
		case 511, 512:
			wantsRule(t, text, x)
		case 513: // the 2 is one too many
			wantsFault(t, text, api.ErrMany, 510*4+5)
		case 514: // the 1
			wantsFault(t, text, api.ErrMany, 511*4+1)
		default:
			wantsFault(t, text, api.ErrMany, 512*4)
		}
	}
	// 255 sums are 511 nodes; the first one too many stands ahead of, or behind, all that is within.
	for _, left := range []bool{false, true} {
		wantsRule(t, textOf(sums(255, left)), sums(255, left))
		wantsRule(t, "not(("+textOf(sums(254, left))+" < 1))", not(two(api.RuleLess, sums(254, left), number(1))))
	}
	wantsFault(t, textOf(sums(256, true)), api.ErrMany, 256+1+255*5+3)
	wantsFault(t, textOf(sums(256, false)), api.ErrMany, 256*5)
}

// TestManyAndOtherFaults: the one that stands further to the left, but at one place ErrMany.
func TestManyAndOtherFaults(t *testing.T) {
	deep := strings.Repeat("not(", 512)
	for _, behind := range []string{"", "1", "?", ")", "(", "avg", "-", strings.Repeat("not(", 9000)} {
		wantsFault(t, deep+behind, api.ErrMany, 2048)
	}
	for _, behind := range []string{"", "?", ")", "avg", "-"} {
		wantsFault(t, deep[4:]+behind, api.ErrForm, 2044)
	}
	wantsFault(t, deep[4:]+"not ", api.ErrForm, 2047)
	wantsFault(t, deep[4:]+"total(1", api.ErrName, 2050)
	// Types are looked at only if all was read.
	wantsFault(t, deep[4:]+"1"+strings.Repeat(")", 511), api.ErrType, 0)
	wantsFault(t, deep[4:]+"1"+strings.Repeat(")", 510), api.ErrForm, 2044+511)
	wantsFault(t, deep[4:]+"1"+strings.Repeat(")", 512), api.ErrForm, 2044+512)
}

func TestLongestTextIsRead(t *testing.T) {
	for _, n := range []int{65535, 65536} {
		wantsRule(t, textOf(lengthy(n)), lengthy(n))
	}
	wantsFault(t, textOf(lengthy(65537)), api.ErrBytes, 0)
	// Ahead of whatever else is wrong.
	for _, part := range []string{"(", "?", "\xff", "1", "not(", " ", "total(", `"`} {
		long := strings.Repeat(part, 65537)
		wantsFault(t, long[:65537], api.ErrBytes, 0)
		wantsFault(t, long, api.ErrBytes, 0)
		if agrees(t, long[:65536]) == api.ErrBytes {
			t.Errorf("%q, 65536 bytes: ErrBytes", part)
		}
	}
	wantsFault(t, strings.Repeat("(", 65536), api.ErrMany, 512)
	wantsFault(t, strings.Repeat("1", 65536), api.ErrForm, 0)
	wantsFault(t, "total("+strings.Repeat("a", 65530), api.ErrName, 6)
	wantsFault(t, `total(a{x="`+strings.Repeat(`\\`, 32762), api.ErrForm, 65535)
}

// TestOneByteIsAnother: in a text that has a bit of all each byte is left out, written twice, and made each other one.
func TestOneByteIsAnother(t *testing.T) {
	text := `((quantile(10/20, h{x="\", \\"}, 5) <= -1.5e-7) or not((total(a, 1) != (least(b{y=""}, 2) / 0))))`
	if agrees(t, text) != api.OK {
		t.Fatal("the text itself is not read")
	}
	told := map[api.Errno]int{}
	for i := range len(text) {
		agrees(t, text[:i])
		agrees(t, text[i:])
		agrees(t, text[:i]+text[i+1:])
		agrees(t, text[:i+1]+text[i:])
		for c := range 256 {
			told[agrees(t, text[:i]+string([]byte{byte(c)})+text[i+1:])]++
		}
	}
	for _, e := range []api.Errno{api.OK, api.ErrForm, api.ErrName, api.ErrArg, api.ErrUtf} {
		if told[e] == 0 {
			t.Errorf("%v never came", e)
		}
	}
}

// TestAllShortTexts: those of few pieces, whichever.
func TestAllShortTexts(t *testing.T) {
	pieces := []string{"(", ")", " ", "1", "-", "<", "and", "not(", "(1 < 1)", "total(a, ", "quantile(", "1/2, ", `a{x="`, `"}`, `\`, ", ", "5)", "0", "\xff"}
	var all func(text string, left int)
	taken := 0
	all = func(text string, left int) {
		if agrees(t, text) == api.OK {
			taken++
		}
		if left > 0 {
			for _, p := range pieces {
				all(text+p, left-1)
			}
		}
	}
	all("", 4)
	if taken < 10 {
		t.Errorf("only %d were rules", taken)
	}
}

func TestAnyBytes(t *testing.T) {
	r := rand.New(rand.NewSource(224))
	for range 20000 {
		b := make([]byte, r.Intn(40))
		for i := range b {
			b[i] = byte(r.Intn(256))
			if r.Intn(2) == 0 {
				b[i] = one(r, []byte(`()+-*/<>=!, "\{}0123456789.enotadr`)...)
			}
		}
		agrees(t, string(b))
	}
}

// TestDisturbedTexts: texts of rules with a few changes.
func TestDisturbedTexts(t *testing.T) {
	r := rand.New(rand.NewSource(225))
	told := map[api.Errno]int{}
	for range 60000 {
		told[agrees(t, disturb(r, textOf(anyRule(r))))]++
	}
	for _, e := range []api.Errno{api.OK, api.ErrForm, api.ErrArg, api.ErrName, api.ErrUtf, api.ErrType} {
		if told[e] < 10 {
			t.Errorf("%v came %d times", e, told[e])
		}
	}
}
