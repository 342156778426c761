package lines_test

import (
	"math"
	"math/rand"
	"slices"
	"strings"
	"testing"

	"gnomon/api"
	"gnomon/lines"
)

// P24.1: Print.

func TestKindsHaveTheirNumbers(t *testing.T) {
	l := []int{lines.None, lines.Make, lines.Counter, lines.Histogram, lines.Summary, lines.Recorder, lines.Release, lines.Add, lines.Observe, lines.Sample, lines.Reset,
		lines.Text, lines.Window, lines.Rate, lines.Quantile, lines.Eval, lines.Alarm, lines.Board, lines.Step, lines.Status, lines.Load}
	for i, kind := range l {
		if kind != i {
			t.Errorf("the kind %d has the number %d", i, kind)
		}
	}
	if len(l) != 21 || len(table) != 20 {
		t.Errorf("%d kinds, %d rows", len(l), len(table))
	}
}

// eachKind tells a command of each kind, and its line.
func eachKind() map[string]lines.Command {
	n := func(l ...int64) []int64 { return l }
	s := func(l ...string) []string { return l }
	return map[string]lines.Command{
		"make 1 -2 30 0":                       {Kind: lines.Make, N: n(1, -2, 30, 0)},
		`counter "c{x=\"1\"}" "all of\x0a"`:    {Kind: lines.Counter, S: s(`c{x="1"}`, "all of\n")},
		`histogram "" "\\"`:                    {Kind: lines.Histogram, S: s("", `\`)},
		`summary "s" ""`:                       {Kind: lines.Summary, S: s("s", "")},
		"recorder":                             {Kind: lines.Recorder},
		"release 9":                            {Kind: lines.Release, N: n(9)},
		"add 1 0 -5":                           {Kind: lines.Add, N: n(1, 0, -5)},
		"observe 1 0 9223372036854775807":      {Kind: lines.Observe, N: n(1, 0, math.MaxInt64)},
		"sample 2 3 0.1":                       {Kind: lines.Sample, N: n(2, 3), X: []float64{0.1}},
		"reset -9223372036854775808":           {Kind: lines.Reset, N: n(math.MinInt64)},
		"text":                                 {Kind: lines.Text},
		"window 10 20":                         {Kind: lines.Window, N: n(10, 20)},
		`rate "c" 10 20`:                       {Kind: lines.Rate, S: s("c"), N: n(10, 20)},
		`quantile "h" 1 2 10 20`:               {Kind: lines.Quantile, S: s("h"), N: n(1, 2, 10, 20)},
		`eval 12 "(total(c, 5) > 4)"`:          {Kind: lines.Eval, N: n(12), S: s("(total(c, 5) > 4)")},
		`alarm "x" 5 10 "(1 < 2)"`:             {Kind: lines.Alarm, S: s("x", "(1 < 2)"), N: n(5, 10)},
		"board":                                {Kind: lines.Board},
		"step 7":                               {Kind: lines.Step, N: n(7)},
		"status":                               {Kind: lines.Status},
		`load "# gnomon 1\x0a# refused 0\x0a"`: {Kind: lines.Load, S: s("# gnomon 1\n# refused 0\n")},
	}
}

func TestPrintOfEachKind(t *testing.T) {
	seen := map[int]bool{}
	for line, c := range eachKind() {
		wantsPrint(t, c, line, api.OK)
		wantsPrint(t, c, lineOf(c), api.OK)
		seen[c.Kind] = true
	}
	if len(seen) != 20 {
		t.Errorf("%d kinds", len(seen))
	}
}

func TestPrintExamples(t *testing.T) {
	wantsPrint(t, lines.Command{Kind: lines.Counter, S: []string{`c{a="x"}`, "h"}}, `counter "c{a=\"x\"}" "h"`, api.OK)
	wantsPrint(t, lines.Command{Kind: lines.Sample, N: []int64{1, 0}, X: []float64{math.Copysign(0, -1)}}, "sample 1 0 -0", api.OK)
	wantsPrint(t, lines.Command{Kind: lines.Make, N: []int64{1, 2}}, "", api.ErrArg)
	wantsPrint(t, lines.Command{}, "", api.ErrKind)
}

// withParts tells a command that has so many parts of each sort.
func withParts(kind, n, x, s int, text string) lines.Command {
	return lines.Command{Kind: kind, N: make([]int64, n), X: make([]float64, x), S: slices.Repeat([]string{text}, s)}
}

func TestPrintOfNoKind(t *testing.T) {
	long := strings.Repeat("a", 70000)
	for _, kind := range []int{0, -1, 21, 22, -20, 255, 256, 257, 1 << 32, 1<<32 + 1, math.MaxInt, math.MinInt} {
		wantsPrint(t, lines.Command{Kind: kind}, "", api.ErrKind)
		// The kind is looked at ahead of the parts, and of the length.
		for _, r := range table {
			wantsPrint(t, withParts(kind, r.count("n"), r.count("x"), r.count("s"), "a"), "", api.ErrKind)
		}
		wantsPrint(t, withParts(kind, 9, 9, 9, long), "", api.ErrKind)
	}
}

func TestPrintOfOtherNumbersOfParts(t *testing.T) {
	long := strings.Repeat("a", 70000)
	for _, r := range table {
		for n := range 7 {
			for x := range 4 {
				for s := range 5 {
					if n == r.count("n") && x == r.count("x") && s == r.count("s") {
						c := withParts(r.kind, n, x, s, "a")
						wantsPrint(t, c, lineOf(c), api.OK)
						continue
					}
					wantsPrint(t, withParts(r.kind, n, x, s, "a"), "", api.ErrArg)
					// How many there are is looked at ahead of the length.
					wantsPrint(t, withParts(r.kind, n, x, s, long), "", api.ErrArg)
				}
			}
		}
		wantsPrint(t, withParts(r.kind, r.count("n")+1000, r.count("x"), r.count("s"), "a"), "", api.ErrArg)
	}
}

func TestPrintOfEveryByte(t *testing.T) {
	all := ""
	for i := range 256 {
		c := byte(i)
		want := string(rune(c))
		switch {
		case c == '"':
			want = `\"`
		case c == '\\':
			want = `\\`
		case c < ' ' || c > '~':
			want = `\x` + string("0123456789abcdef"[i/16]) + string("0123456789abcdef"[i%16])
		}
		one := string([]byte{c})
		wantsPrint(t, lines.Command{Kind: lines.Load, S: []string{one}}, `load "`+want+`"`, api.OK)
		wantsPrint(t, lines.Command{Kind: lines.Load, S: []string{one + one + "a" + one}}, `load "`+want+want+"a"+want+`"`, api.OK)
		wantsPrint(t, lines.Command{Kind: lines.Counter, S: []string{one, "1"}}, `counter "`+want+`" "1"`, api.OK)
		wantsPrint(t, lines.Command{Kind: lines.Alarm, S: []string{"1", one}, N: []int64{2, 3}}, `alarm "1" 2 3 "`+want+`"`, api.OK)
		all += one
	}
	c := lines.Command{Kind: lines.Histogram, S: []string{all, all + all}}
	wantsPrint(t, c, lineOf(c), api.OK)
	// Letters of several bytes are written by bytes, those that are cut short too.
	wantsPrint(t, lines.Command{Kind: lines.Load, S: []string{"é\u2028\ufffd\U0010ffff\xc3\xe2\x80"}}, `load "\xc3\xa9\xe2\x80\xa8\xef\xbf\xbd\xf4\x8f\xbf\xbf\xc3\xe2\x80"`, api.OK)
}

func TestPrintOfNumbersAndFloats(t *testing.T) {
	for x, text := range map[float64]string{
		0: "0", 1: "1", -1.5: "-1.5", 1e20: "100000000000000000000", 1e21: "1e21", 1e-7: "1e-7", 0.30000000000000004: "0.30000000000000004", 5e-324: "5e-324",
		math.MaxFloat64: "1.7976931348623157e308", math.Inf(1): "+Inf", math.Inf(-1): "-Inf",
	} {
		wantsPrint(t, lines.Command{Kind: lines.Sample, N: []int64{-7, 0}, X: []float64{x}}, "sample -7 0 "+text, api.OK)
	}
	for _, x := range []float64{math.NaN(), -math.NaN(), math.Float64frombits(0x7ff0000000000001), math.Float64frombits(0xffffffffffffffff)} {
		wantsPrint(t, lines.Command{Kind: lines.Sample, N: []int64{-7, 0}, X: []float64{x}}, "sample -7 0 NaN", api.OK)
	}
	for n, text := range map[int64]string{0: "0", 1: "1", -1: "-1", 10: "10", -10: "-10", math.MaxInt64: "9223372036854775807", math.MinInt64: "-9223372036854775808"} {
		wantsPrint(t, lines.Command{Kind: lines.Step, N: []int64{n}}, "step "+text, api.OK)
		wantsPrint(t, lines.Command{Kind: lines.Quantile, S: []string{" "}, N: []int64{n, 7, n, 8}}, `quantile " " `+text+" 7 "+text+" 8", api.OK)
	}
}

// filled tells a command whose line has so many bytes: the text number i is filled up with bytes that are written with so many each.
func filled(r row, i, size, each int) lines.Command {
	c := withParts(r.kind, r.count("n"), r.count("x"), r.count("s"), "")
	left := size - len(lineOf(c))
	text := strings.Repeat([]string{"a", "\"", "", "\xff"}[each-1], left/each)
	c.S[i] = text + strings.Repeat("b", left%each)
	return c
}

func TestPrintAtMaxLine(t *testing.T) {
	tried := 0
	for _, r := range table {
		for i := range r.count("s") {
			for _, each := range []int{1, 2, 4} {
				c := filled(r, i, 65536, each)
				line := lineOf(c)
				if len(line) != 65536 {
					t.Fatalf("%d bytes", len(line))
				}
				wantsPrint(t, c, line, api.OK)
				wantsParse(t, line, c)
				wantsPrint(t, filled(r, i, 65535, each), lineOf(filled(r, i, 65535, each)), api.OK)
				for more := 1; more < 5; more++ {
					wantsPrint(t, filled(r, i, 65536+more, each), "", api.ErrBytes)
				}
				tried++
			}
		}
	}
	if tried != 36 {
		t.Errorf("%d commands", tried)
	}
	// Both texts count, and so do the numbers.
	half := strings.Repeat("a", 32760)
	wantsPrint(t, lines.Command{Kind: lines.Counter, S: []string{half + "aaa", half}}, `counter "`+half+`aaa" "`+half+`"`, api.OK)
	wantsPrint(t, lines.Command{Kind: lines.Counter, S: []string{half + "aaa", half + "a"}}, "", api.ErrBytes)
	wantsPrint(t, lines.Command{Kind: lines.Alarm, N: []int64{1, 2}, S: []string{half, half}}, `alarm "`+half+`" 1 2 "`+half+`"`, api.OK)
	wantsPrint(t, lines.Command{Kind: lines.Alarm, N: []int64{1, 20}, S: []string{half, half}}, `alarm "`+half+`" 1 20 "`+half+`"`, api.OK)
	wantsPrint(t, lines.Command{Kind: lines.Alarm, N: []int64{1, -20}, S: []string{half, half}}, "", api.ErrBytes)
	wantsPrint(t, lines.Command{Kind: lines.Alarm, N: []int64{1, 20}, S: []string{half, half + "a"}}, "", api.ErrBytes)
}

func TestPrintOfTextsThatAreFarTooLong(t *testing.T) {
	for _, text := range []string{strings.Repeat("a", 1<<26), strings.Repeat("\xff", 1<<26), strings.Repeat("\\", 65537)} {
		wantsPrint(t, lines.Command{Kind: lines.Load, S: []string{text}}, "", api.ErrBytes)
		wantsPrint(t, lines.Command{Kind: lines.Summary, S: []string{"", text}}, "", api.ErrBytes)
	}
}

// TestPrintOfManyCommands: whatever the parts are, against the second way to write a line.
func TestPrintOfManyCommands(t *testing.T) {
	r := rand.New(rand.NewSource(241))
	for range 20000 {
		c := someCommand(r)
		wantsPrint(t, c, lineOf(c), api.OK)
	}
}
