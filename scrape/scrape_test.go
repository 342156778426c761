package scrape_test

import (
	"bytes"
	"math"
	"math/big"
	"math/rand"
	"slices"
	"sort"
	"strconv"
	"strings"
	"sync"
	"testing"

	"gnomon/api"
	"gnomon/bucket"
	"gnomon/expo"
	"gnomon/scrape"
	"gnomon/snap"
)

// text tells a text of these lines.
func text(l ...string) string { return strings.Join(l, "\n") + "\n" }

// cut tells a text that is not too long to be shown.
func cut(s string) string { return strconv.Quote(s[:min(len(s), 2000)]) }

// written tells the text of a snapshot.
func written(t *testing.T, s api.Snapshot) string {
	t.Helper()
	b, e := expo.Write(s)
	if e != api.OK {
		t.Fatalf("the test's own snapshot is not written: %v", e)
	}
	return string(b)
}

func wants(t *testing.T, what any, b string, want api.Snapshot) {
	t.Helper()
	if got, e, at := scrape.Parse([]byte(b)); e != api.OK || at != 0 || !snap.Same(got, want) {
		t.Errorf("%v: Parse tells %v at %d, %v, want %v; of %s", what, e, at, got, want, cut(b))
	}
}

func wantsError(t *testing.T, what any, b string, e api.Errno, line int) {
	t.Helper()
	if got, f, at := scrape.Parse([]byte(b)); f != e || at != line || !isZero(got) {
		t.Errorf("%v: Parse tells %v at %d, %v, want %v at %d; of %s", what, f, at, got, e, line, cut(b))
	}
}

func isZero(s api.Snapshot) bool { return s.Precision == 0 && len(s.Values) == 0 && s.Refused == 0 }

// wantsModel holds what Parse tells against the second reader, and against P17.2.
func wantsModel(t *testing.T, what any, b string) api.Errno {
	t.Helper()
	s, e, line := model(b)
	got, f, at := scrape.Parse([]byte(b))
	if f != e || at != line || !snap.Same(got, s) {
		t.Errorf("%v: Parse tells %v at %d, %v, the model %v at %d, %v; of %s", what, f, at, got, e, line, s, cut(b))
	}
	if f == api.OK {
		wantsBack(t, what, b, got)
	}
	return f
}

// wantsBack: what Parse takes Write tells, byte by byte.
func wantsBack(t *testing.T, what any, b string, got api.Snapshot) {
	t.Helper()
	if again, e := expo.Write(got); e != api.OK || string(again) != b {
		t.Errorf("%v: Parse takes %s, of whose snapshot Write tells %v, %s", what, cut(b), e, cut(string(again)))
	}
}

// The chapter's example.

func example() api.Snapshot {
	return api.Snapshot{Precision: 3, Refused: 2, Values: []api.Value{
		helped(counter("a", 7), "all"),
		helped(counter("a", 0, "x", "1"), "all"),
		labelled(histogram("h", 40, 5, 1, 24, 1), "k", "q\""),
		summary("s", 2, 1e21, 0.5, 1e21),
		summary("t", 0, 0, 0, 0),
	}}
}

func exampleLines() []string {
	return []string{
		`# gnomon 3`,
		`# refused 2`,
		`# HELP a all`,
		`# TYPE a counter`,
		`a 7`,
		`a{x="1"} 0`,
		`# HELP h `,
		`# TYPE h histogram`,
		`h_bucket{k="q\"",le="5"} 1`,
		`h_bucket{k="q\"",le="35"} 2`,
		`h_bucket{k="q\"",le="+Inf"} 2`,
		`h_sum{k="q\""} 40`,
		`h_count{k="q\""} 2`,
		`# HELP s `,
		`# TYPE s summary`,
		`s{quantile="0"} 0.5`,
		`s{quantile="1"} 1e21`,
		`s_sum 1e21`,
		`s_count 2`,
		`# HELP t `,
		`# TYPE t summary`,
		`t_sum 0`,
		`t_count 0`,
	}
}

// with tells the example with other lines, each ahead of its text its number.
func with(l ...any) string {
	lines := exampleLines()
	for i := 0; i < len(l); i += 2 {
		lines[l[i].(int)-1] = l[i+1].(string)
	}
	return text(lines...)
}

// without tells the example without the lines from one to another.
func without(from, to int) string { return text(slices.Delete(exampleLines(), from-1, to)...) }

// behind tells the example with more lines at its end.
func behind(l ...string) string { return text(append(exampleLines(), l...)...) }

func TestExample(t *testing.T) {
	wants(t, "the chapter's example", text(exampleLines()...), example())
	wants(t, "without values", "# gnomon 1\n# refused 0\n", api.Snapshot{Precision: 1})
}

// TestRows: the rows of the chapter's examples, one by one.
func TestRows(t *testing.T) {
	for _, c := range []struct {
		b    string
		e    api.Errno
		line int
	}{
		{"", api.ErrForm, 1},
		{"# gnomon 3", api.ErrForm, 1},
		{"# gnomon 3\n", api.ErrForm, 2},
		{"# gnomon 15\n", api.ErrForm, 1},
		{"# gnomon 03\n", api.ErrForm, 1},
		{"# gnomon 3\n# refused -1\n", api.ErrForm, 2},
		{without(5, 6), api.ErrForm, 5},
		{with(6, `a{x="1"} +0`), api.ErrForm, 6},
		{with(6, `a{x="1",} 0`), api.ErrForm, 6},
		{with(6, `b 0`), api.ErrForm, 6},
		{with(5, `a -7`), api.ErrRange, 5},
		{with(5, `a{x="1"} 0`, 6, `a 7`), api.ErrOrder, 6},
		{with(10, `h_bucket{k="q\"",le="34"} 2`), api.ErrForm, 10},
		{with(10, `h_bucket{k="q\"",le="35"} 1`), api.ErrForm, 10},
		{with(11, `h_bucket{k="q\"",le="+Inf"} 3`), api.ErrForm, 11},
		{with(13, `h_count{k="q\""} 1`), api.ErrForm, 13},
		{with(12, `h_sum{k="q\""} 4000`), api.ErrRange, 9},
		{with(19, `s_count 0`), api.ErrForm, 19},
		{with(16, `s{quantile="1"} 1e21`, 17, `s{quantile="0"} 0.5`), api.ErrForm, 16},
		{behind(`# HELP a all`, `# TYPE a counter`, `a{y="1"} 0`), api.ErrOrder, 26},
		{with(5, "a 7\r"), api.ErrForm, 5},
		{behind(""), api.ErrForm, 24},
	} {
		wantsError(t, "a row", c.b, c.e, c.line)
	}
}

// TestModel: the second reader tells the chapter's example and the least and greatest of its numbers.
func TestModel(t *testing.T) {
	if s, e, at := model(text(exampleLines()...)); e != api.OK || at != 0 || !snap.Same(s, example()) {
		t.Errorf("%v at %d: %v", e, at, s)
	}
	for p := 1; p <= api.MaxPrecision; p++ {
		for _, i := range []int{0, 1<<p - 1, 1 << p, 2<<p - 1, 2 << p, 2<<p + 1, 3 << p, bucket.Length(p) - 2, bucket.Length(p) - 1} {
			high, _ := bucket.High(p, i)
			if got := bucketOf(p, big.NewInt(high)); got != i {
				t.Errorf("precision %d: %d is the greatest of the bucket %d, not %d", p, high, i, got)
			}
			low, _ := bucket.Low(p, i)
			if got := bucketOf(p, big.NewInt(low)); low < high && got >= 0 {
				t.Errorf("precision %d: %d is the greatest of no bucket, not of %d", p, low, got)
			}
		}
	}
}

// P17.1: the head.

func TestHead(t *testing.T) {
	for p := 1; p <= api.MaxPrecision; p++ {
		for n, digits := range map[uint64]string{0: "0", 1: "1", 10: "10", 1 << 63: "9223372036854775808", mostOf64: "18446744073709551615"} {
			wants(t, p, "# gnomon "+strconv.Itoa(p)+"\n# refused "+digits+"\n", api.Snapshot{Precision: p, Refused: n})
		}
	}
}

// notWhole tells texts that are no whole numbers.
func notWhole() []string {
	return []string{"", " ", "+1", "-1", "-0", "00", "01", "007", "1 ", "1\r", "1.0", "1e1", "0x1", "1_0", "a", "\u0661", "18446744073709551616", "18446744073709551617", "36893488147419103233", "340282366920938463463374607431768211457", strings.Repeat("9", 500), strings.Repeat("0", 500)}
}

func TestWrongHeads(t *testing.T) {
	for _, digits := range append(notWhole(), "0", "15", "16", "255", "258", "4294967297", "18446744073709551615") {
		wantsError(t, digits, "# gnomon "+digits+"\n# refused 0\n", api.ErrForm, 1)
	}
	for _, digits := range notWhole() {
		wantsError(t, digits, "# gnomon 1\n# refused "+digits+"\n", api.ErrForm, 2)
	}
	for _, line := range []string{"", "#", "# gnomon", "#  gnomon 3", " # gnomon 3", "# gnomon  3", "# Gnomon 3", "# gnomon\t3", "gnomon 3", "# gnomon 3 ", "# refused 3", "a 7", "# HELP a ", "\ufeff# gnomon 3"} {
		wantsError(t, line, line+"\n# refused 0\n", api.ErrForm, 1)
	}
	for _, line := range []string{"", "# refused", "#  refused 3", " # refused 3", "# refused  3", "# Refused 3", "# refuse 3", "# gnomon 3", "a 7", "# HELP a "} {
		wantsError(t, line, "# gnomon 3\n"+line+"\n", api.ErrForm, 2)
	}
	for _, line := range []string{"", " ", "#", "# EOF", "# TYPE a counter", "a 7", "# refused 0", "# HELP", "# HELP ", "\x00", "\r"} {
		wantsError(t, line, "# gnomon 3\n# refused 0\n"+line+"\n", api.ErrForm, 3)
	}
	wantsError(t, "another end of lines", "# gnomon 3\r\n# refused 0\r\n", api.ErrForm, 1)
	wantsError(t, "another end of lines", "# gnomon 3\r# refused 0\r", api.ErrForm, 1)
	wantsError(t, "one line", "# gnomon 3 # refused 0\n", api.ErrForm, 1)
}

// P17.1: each line of each form.

// exampleFaults tells what becomes of the example, line by line, if each line's fault is ErrForm, but as said.
func exampleFaults(t *testing.T, what string, change func(i int) string, shift int, said map[int]fault) {
	t.Helper()
	for i := 1; i <= len(exampleLines()); i++ {
		b := change(i)
		f, is := said[i]
		switch {
		case !is:
			wantsError(t, what+" "+strconv.Itoa(i), b, api.ErrForm, i+shift)
		case f.e != api.OK:
			wantsError(t, what+" "+strconv.Itoa(i), b, f.e, f.line)
		default:
			s := example()
			f.change(&s)
			wants(t, what+" "+strconv.Itoa(i), b, s)
		}
		wantsModel(t, what, b)
	}
}

// fault is an error with its line; or, if it is none, how the snapshot is changed.
type fault struct {
	e      api.Errno
	line   int
	change func(s *api.Snapshot)
}

func TestLineLeftOut(t *testing.T) {
	exampleFaults(t, "without the line", func(i int) string { return without(i, i) }, 0, map[int]fault{
		5: {change: func(s *api.Snapshot) { s.Values = slices.Delete(s.Values, 0, 1) }},
		6: {change: func(s *api.Snapshot) { s.Values = slices.Delete(s.Values, 1, 2) }},
		9: {e: api.ErrRange, line: 9}, // two values from 32 on don't come to 40
	})
}

func TestLineDoubled(t *testing.T) {
	exampleFaults(t, "twice the line", func(i int) string { return text(slices.Insert(exampleLines(), i, exampleLines()[i-1])...) }, 1, map[int]fault{
		5: {e: api.ErrTwice, line: 6},
		6: {e: api.ErrTwice, line: 7},
	})
}

func TestLineCutShort(t *testing.T) {
	exampleFaults(t, "cut short by a byte", func(i int) string {
		line := exampleLines()[i-1]
		return with(i, line[:len(line)-1])
	}, 0, map[int]fault{
		3:  {change: func(s *api.Snapshot) { s.Values[0].Desc.Help, s.Values[1].Desc.Help = "al", "al" }},
		12: {e: api.ErrRange, line: 9}, // 4
	})
	for i, line := range exampleLines() {
		for n := range line {
			wantsModel(t, line[:n], with(i+1, line[:n]))
			wantsModel(t, line[n:], with(i+1, line[n:]))
		}
	}
}

func TestLineNotEnded(t *testing.T) {
	for i, line := range exampleLines() {
		ahead := strings.Join(exampleLines()[:i], "\n")
		if i > 0 {
			ahead += "\n"
		}
		for n := 1; n <= len(line); n++ {
			wantsError(t, line[:n], ahead+line[:n], api.ErrForm, i+1)
		}
	}
}

// TestEnds: where a text may end, and which line must stand there, if it may not.
func TestEnds(t *testing.T) {
	values := map[int]int{2: 0, 5: 1, 6: 2, 13: 3, 19: 4, 23: 5}
	for n := 1; n <= len(exampleLines()); n++ {
		b := text(exampleLines()[:n]...)
		if many, is := values[n]; is {
			s := example()
			s.Values = s.Values[:many]
			wants(t, n, b, s)
		} else {
			wantsError(t, n, b, api.ErrForm, n+1)
		}
	}
}

func TestLineChangedByOneByte(t *testing.T) {
	odd := "\x00\t\n\r !\"#+,-./019:=AZ[\\]_aehklnrz{}\x7f\x80\xc3\xff"
	taken := 0
	for _, b := range []string{text(exampleLines()...), text(otherLines()...)} {
		for i := range b {
			for j := range len(odd) {
				changed := b[:i] + odd[j:j+1] + b[i+1:]
				if wantsModel(t, i, changed) == api.OK && changed != b {
					taken++
				}
				wantsModel(t, i, b[:i]+odd[j:j+1]+b[i:])
			}
			wantsModel(t, i, b[:i]+b[i+1:])
		}
	}
	if taken < 100 {
		t.Errorf("only %d changed texts were taken", taken)
	}
}

// TestLineChangedToAnyByte: whatever one byte becomes, no text is taken that isn't its snapshot's, and the fault is told at that line or behind it; of a value at its first line.
func TestLineChangedToAnyByte(t *testing.T) {
	first := []int{0, 1, 2, 3, 4, 5, 6, 7, 8, 9, 9, 9, 9, 9, 14, 15, 16, 16, 16, 16, 20, 21, 22, 22}
	b := []byte(text(exampleLines()...))
	line := 1
	for i, was := range b {
		for c := range 256 {
			b[i] = byte(c)
			s, e, at := scrape.Parse(b)
			if e == api.OK {
				wantsBack(t, i, string(b), s)
			} else if at < first[line] || at < line && e == api.ErrForm || !isZero(s) {
				t.Errorf("the byte %d, of line %d, as %d: %v at %d", i, line, c, e, at)
			}
		}
		b[i] = was
		if was == '\n' {
			line++
		}
	}
}

// otherLines tells a text of forms that the chapter's example doesn't have.
func otherLines() []string {
	return []string{
		`# gnomon 1`,
		`# refused 0`,
		`# HELP a: x\\y\nz `,
		`# TYPE a: histogram`,
		`a:_bucket{le="+Inf"} 0`,
		`a:_sum 0`,
		`a:_count 0`,
		`a:_bucket{_="",b="\\\"\n",le="0"} 3`,
		`a:_bucket{_="",b="\\\"\n",le="9223372036854775807"} 4`,
		`a:_bucket{_="",b="\\\"\n",le="+Inf"} 4`,
		`a:_sum{_="",b="\\\"\n"} 9223372036854775807`,
		`a:_count{_="",b="\\\"\n"} 4`,
		`# HELP b  `,
		`# TYPE b summary`,
		`b{quantile="0"} -0`,
		`b{quantile="1"} 0`,
		`b_sum -5e-324`,
		`b_count 9223372036854775807`,
		`b_sum{c="} 1 {"} 0`,
		`b_count{c="} 1 {"} 0`,
		`b{d="le=",quantile="0"} 1.5`,
		`b{d="le=",quantile="1"} 1e300`,
		`b_sum{d="le="} 2`,
		`b_count{d="le="} 10`,
		`# HELP c # HELP`,
		`# TYPE c counter`,
		`c{c="# HELP c "} 170141183460469231731687303715884105727`,
	}
}

func TestOtherForms(t *testing.T) {
	help := "x\\y\nz "
	wants(t, "other forms", text(otherLines()...), api.Snapshot{Precision: 1, Values: []api.Value{
		helped(histogram("a:", 0), help),
		helped(labelled(histogram("a:", mostOf63, 0, 3, 125, 1), "_", "", "b", "\\\"\n"), help),
		helped(summary("b", mostOf63, -5e-324, minus, 0), " "),
		helped(labelled(summary("b", 0, 0, 0, 0), "c", "} 1 {"), " "),
		helped(labelled(summary("b", 10, 2, 1.5, 1e300), "d", "le="), " "),
		{Desc: api.Desc{Kind: api.Counter, Name: "c", Help: "# HELP", Labels: labels("c", "# HELP c ")}, Total: greatest},
	}})
}

func TestWrongFamilies(t *testing.T) {
	long := strings.Repeat("n", api.MaxName)
	wants(t, "the longest name", "# gnomon 3\n# refused 0\n# HELP "+long+" \n# TYPE "+long+" counter\n"+long+" 1\n", of(counter(long, 1)))
	for _, line := range []string{
		"# HELP", "# HELP ", "# HELP  ", "# HELP  a", "# HELP a", "# HELP\ta ", "# help a ", "#HELP a ", " # HELP a ", "# HELP a\t", "# HELP 1 ", "# HELP a-b ", "# HELP a{ ", "# HELP ü ",
		"# HELP a_sum ", "# HELP a_count ", "# HELP a_bucket ", "# HELP _sum ", "# HELP " + long + "n ", `# HELP a \`, `# HELP a \t`, `# HELP a \"`, `# HELP a \\\`, "# HELP a{x=\"1\"} ",
	} {
		wantsError(t, line, with(3, line), api.ErrForm, 3)
	}
	for _, line := range []string{
		"", "# TYPE", "# TYPE a", "# TYPE a ", "# TYPE a gauge", "# TYPE a untyped", "# TYPE a Counter", "# TYPE a counter ", "# TYPE a  counter", "# TYPE  a counter", "# TYPE a counter\r",
		"# TYPE b counter", "# TYPE aa counter", "# TYPE  counter", "# TYPE A counter", "# HELP a all", "# TYPE a counters", "# TYPE a count", "# type a counter", "a 7", "# TYPE h histogram",
	} {
		wantsError(t, line, with(4, line), api.ErrForm, 4)
	}
	// Each kind's lines are none of another kind's.
	wantsError(t, "counter lines of a histogram", with(4, "# TYPE a histogram"), api.ErrForm, 5)
	wantsError(t, "counter lines of a summary", with(4, "# TYPE a summary"), api.ErrForm, 5)
	wantsError(t, "histogram lines of a counter", with(8, "# TYPE h counter"), api.ErrForm, 9)
	wantsError(t, "histogram lines of a summary", with(8, "# TYPE h summary"), api.ErrForm, 9)
	wantsError(t, "summary lines of a counter", with(15, "# TYPE s counter"), api.ErrForm, 16)
	wantsError(t, "summary lines of a histogram", with(15, "# TYPE s histogram"), api.ErrForm, 16)
	// A family's series stand behind one head alone; and none is without series.
	for _, name := range []string{"a", "h", "s", "t"} {
		for _, word := range []string{"counter", "histogram", "summary"} {
			wantsError(t, "a family without series", behind("# HELP u"+name+" ", "# TYPE u"+name+" "+word), api.ErrForm, 26)
			wantsError(t, "a family without series", behind("# HELP u"+name+" ", "# TYPE u"+name+" "+word, "# HELP v ", "# TYPE v counter", "v 1"), api.ErrForm, 26)
		}
	}
	again := exampleLines()
	wantsError(t, "the name of the family ahead", text(slices.Insert(again, 5, "# HELP a all", "# TYPE a counter")...), api.ErrForm, 6)
	wantsError(t, "the name of the family ahead, another help", text(slices.Insert(again, 5, "# HELP a other", "# TYPE a counter")...), api.ErrForm, 6)
	wantsError(t, "the name of the family ahead, another kind", behind("# HELP t ", "# TYPE t counter", `t{x="1"} 1`), api.ErrForm, 24)
	wantsError(t, "a line that is none", behind("# EOF"), api.ErrForm, 24)
	wantsError(t, "a remark", with(6, "# a remark"), api.ErrForm, 6)
	wantsError(t, "a family's second line without its first", behind("# TYPE u counter", "u 1"), api.ErrForm, 24)
}

// notIntegers tells texts that are no numbers of 128 bits.
func notIntegers() []string {
	return []string{"", "+0", "+1", "-0", "00", "01", "-01", "--1", "-", "1.0", "1e1", "0x1", "1_0", "a", "NaN", "+Inf", "1\r", "1\t", "170141183460469231731687303715884105728", "-170141183460469231731687303715884105729", strings.Repeat("9", 500)}
}

// wrongSeries tells, of a name, texts that are none of a series of that name.
func wrongSeries(name string) []string {
	long := strings.Repeat("v", api.MaxText+1)
	var many []string
	for i := range api.MaxLabels + 1 {
		many = append(many, string(rune('a'+i))+`="1"`)
	}
	return []string{
		"", " " + name, name + " ", name + "x", "x" + name, "b", "1", name + "{", name + "}", name + "{}", name + "{,}", name + "{x}", name + "{x=}", name + "{x=1}", name + `{x="}`, name + `{x="1}`, name + `{x="1"`, name + `{x="1"}}`, name + `{x="1"}a`,
		name + `{x="1",}`, name + `{,x="1"}`, name + `{x="1",,y="1"}`, name + `{x="1"y="1"}`, name + `{x="1";y="1"}`, name + `{x="1", y="1"}`, name + `{x = "1"}`, name + ` {x="1"}`, name + `{ x="1"}`,
		name + `{y="1",x="1"}`, name + `{x="1",x="2"}`, name + `{x="1",x="1"}`, name + `{le="1"}`, name + `{quantile="1"}`, name + `{__x="1"}`, name + `{1x="1"}`, name + `{x:="1"}`, name + `{ü="1"}`, name + `{="1"}`,
		name + `{x="\t"}`, name + `{x="\"}`, name + `{x="""}`, name + `{x='1'}`, name + "{x=\"\xff\"}", name + "{x=\"\xed\xa0\x80\"}", name + "{x=\"\xc0\x80\"}",
		name + `{x="` + long + `"}`, name + `{` + strings.Repeat("n", api.MaxName+1) + `="1"}`, name + "{" + strings.Join(many, ",") + "}",
	}
}

func TestWrongCounters(t *testing.T) {
	for _, number := range notIntegers() {
		wantsError(t, number, with(5, "a "+number), api.ErrForm, 5)
		wantsError(t, number, with(6, `a{x="1"} `+number), api.ErrForm, 6)
	}
	for _, series := range wrongSeries("a") {
		wantsError(t, series, with(5, series+" 7"), api.ErrForm, 5)
		wantsError(t, series, with(6, series+" 7"), api.ErrForm, 6)
	}
	for _, line := range []string{"", " ", "a", "7", "a7", "a\t7", `a{x="1"}`, `a{x="1"}7`, `a{x="1 2"}`, "a 7 8", "a 7 ", "a  7", "a_sum 7", "a_count 7", `a_bucket{le="+Inf"} 7`, `a{quantile="0"} 7`} {
		wantsError(t, line, with(5, line), api.ErrForm, 5)
		wantsError(t, line, with(6, line), api.ErrForm, 6)
	}
}

func TestCounters(t *testing.T) {
	for digits, n := range map[string]api.Int{
		"0":                    {},
		"1":                    {Lo: 1},
		"10":                   {Lo: 10},
		"9223372036854775808":  {Lo: 1 << 63},
		"18446744073709551615": {Lo: mostOf64},
		"18446744073709551616": {Hi: 1},
		"170141183460469231731687303715884105727": greatest,
	} {
		wants(t, digits, text("# gnomon 3", "# refused 0", "# HELP c ", "# TYPE c counter", "c "+digits), of(api.Value{Desc: api.Desc{Kind: api.Counter, Name: "c"}, Total: n}))
	}
}

// histogramLines tells a text of the precision 3 with one histogram, h, without labels: the buckets' lines are the 5th and those behind it.
func histogramLines(l ...string) string {
	return text(append([]string{"# gnomon 3", "# refused 0", "# HELP h ", "# TYPE h histogram"}, l...)...)
}

func TestHistograms(t *testing.T) {
	wants(t, "no counts", histogramLines(`h_bucket{le="+Inf"} 0`, "h_sum 0", "h_count 0"), of(histogram("h", 0)))
	wants(t, "the first bucket", histogramLines(`h_bucket{le="0"} 3`, `h_bucket{le="+Inf"} 3`, "h_sum 0", "h_count 3"), of(histogram("h", 0, 0, 3)))
	wants(t, "the last bucket", histogramLines(`h_bucket{le="9223372036854775807"} 1`, `h_bucket{le="+Inf"} 1`, "h_sum 9223372036854775807", "h_count 1"), of(histogram("h", mostOf63, 487, 1)))
	wants(t, "some buckets", histogramLines(`h_bucket{le="1"} 2`, `h_bucket{le="2"} 5`, `h_bucket{le="7"} 6`, `h_bucket{le="17"} 7`, `h_bucket{le="+Inf"} 7`, "h_sum 32", "h_count 7"), of(histogram("h", 32, 1, 2, 2, 3, 7, 1, 16, 1)))
	wants(t, "the greatest N", histogramLines(`h_bucket{le="0"} 9223372036854775806`, `h_bucket{le="1"} 9223372036854775807`, `h_bucket{le="+Inf"} 9223372036854775807`, "h_sum 1", "h_count 9223372036854775807"), of(histogram("h", 1, 0, mostOf63-1, 1, 1)))
	most := histogram("h", 0, 487, mostOf63)
	square := new(big.Int).Mul(big.NewInt(mostOf63), big.NewInt(mostOf63))
	most.Total = narrow(square)
	wants(t, "the greatest total", histogramLines(`h_bucket{le="9223372036854775807"} 9223372036854775807`, `h_bucket{le="+Inf"} 9223372036854775807`, "h_sum "+square.String(), "h_count 9223372036854775807"), of(most))
}

// TestWrongBuckets: of a bucket's line the value must be the greatest of a bucket, and both numbers rise.
func TestWrongBuckets(t *testing.T) {
	for _, high := range append(notWhole(), "+inf", "Inf", "-Inf", "+Inf ", "NaN", "5.0", "16", "18", "32", "33", "34", "36", "9223372036854775806", "9223372036854775808", "9223372036854775809", "18446744073709551615", `"`, `\"`, "5,") {
		wantsError(t, high, histogramLines(`h_bucket{le="`+high+`"} 1`, `h_bucket{le="+Inf"} 1`, "h_sum 5", "h_count 1"), api.ErrForm, 5)
		wantsError(t, high, histogramLines(`h_bucket{le="5"} 1`, `h_bucket{le="`+high+`"} 2`, `h_bucket{le="+Inf"} 2`, "h_sum 5", "h_count 2"), api.ErrForm, 6)
	}
	for _, high := range []string{"0", "5", "6"} {
		wantsError(t, high, histogramLines(`h_bucket{le="6"} 1`, `h_bucket{le="`+high+`"} 2`, `h_bucket{le="+Inf"} 2`, "h_sum 12", "h_count 2"), api.ErrForm, 6)
	}
	for _, n := range append(notWhole(), "0", "NaN", "+Inf", "0.5") {
		wantsError(t, n, histogramLines(`h_bucket{le="5"} `+n, `h_bucket{le="+Inf"} `+n, "h_sum 0", "h_count "+n), api.ErrForm, 5)
	}
	for _, n := range append(notWhole(), "0", "1", "3", "4") {
		wantsError(t, n, histogramLines(`h_bucket{le="5"} 4`, `h_bucket{le="6"} `+n, `h_bucket{le="+Inf"} `+n, "h_sum 26", "h_count "+n), api.ErrForm, 6)
	}
	for p, high := range map[string]string{"1": "4", "2": "8", "3": "16", "4": "32", "14": "32768"} {
		wantsError(t, p, text("# gnomon "+p, "# refused 0", "# HELP h ", "# TYPE h histogram", `h_bucket{le="`+high+`"} 1`, `h_bucket{le="+Inf"} 1`, "h_sum "+high, "h_count 1"), api.ErrForm, 5)
	}
}

func TestWrongHistograms(t *testing.T) {
	for _, n := range append(notWhole(), "0", "1", "3", "+Inf", "2.0") {
		wantsError(t, n, with(11, `h_bucket{k="q\"",le="+Inf"} `+n), api.ErrForm, 11)
		wantsError(t, n, with(13, `h_count{k="q\""} `+n), api.ErrForm, 13)
	}
	for _, n := range []string{"1", "00", "-0", ""} {
		wantsError(t, n, histogramLines(`h_bucket{le="+Inf"} `+n, "h_sum 0", "h_count 0"), api.ErrForm, 5)
		wantsError(t, n, histogramLines(`h_bucket{le="+Inf"} 0`, "h_sum 0", "h_count "+n), api.ErrForm, 7)
	}
	for _, n := range notIntegers() {
		wantsError(t, n, with(12, `h_sum{k="q\""} `+n), api.ErrForm, 12)
	}
	wantsError(t, "+Inf ahead of a bucket", with(10, exampleLines()[10], 11, exampleLines()[9]), api.ErrForm, 10)
	wantsError(t, "the sum behind the number", with(12, exampleLines()[12], 13, exampleLines()[11]), api.ErrForm, 12)
	wantsError(t, "the buckets changed round", with(9, exampleLines()[9], 10, exampleLines()[8]), api.ErrForm, 10)
	wantsError(t, "+Inf twice", histogramLines(`h_bucket{le="+Inf"} 0`, `h_bucket{le="+Inf"} 0`, "h_sum 0", "h_count 0"), api.ErrForm, 6)
	wantsError(t, "a bucket behind +Inf", histogramLines(`h_bucket{le="+Inf"} 0`, `h_bucket{le="5"} 1`, "h_sum 0", "h_count 0"), api.ErrForm, 6)
	wantsError(t, "the sum first", histogramLines("h_sum 0", "h_count 0"), api.ErrForm, 5)
}

// TestLabelsOfHistograms: the first line tells the labels, and all others have these.
func TestLabelsOfHistograms(t *testing.T) {
	for _, series := range wrongSeries("h") {
		list, is := strings.CutPrefix(series, "h{")
		list, closed := strings.CutSuffix(list, "}")
		if !is || !closed {
			continue
		}
		line := "h_bucket{" + list + `,le="+Inf"} 0`
		wantsError(t, line, histogramLines(line, "h_sum{"+list+"} 0", "h_count{"+list+"} 0"), api.ErrForm, 5)
		line = "h_bucket{" + list + `,le="5"} 1`
		wantsError(t, line, histogramLines(line, "h_bucket{"+list+`,le="+Inf"} 1`, "h_sum{"+list+"} 5", "h_count{"+list+"} 1"), api.ErrForm, 5)
	}
	for _, series := range []string{
		"", "h", "h_bucket", "h_bucket{", "h_bucket{}", `h_bucket{le="5"`, `h_bucket{le="5}`, `h_bucket{le=5}`, `h_bucket{le="5",}`, `h_bucket{,le="5"}`, `h_bucket{le="5",x="1"}`, `h_bucket{x="1"le="5"}`, `h_bucket{x="1" ,le="5"}`, `h_bucket{x="1", le="5"}`, `h_bucket{xle="5"}`,
		`h_bucket{x="1"}`, `h_bucket{LE="5"}`, `h_bucket{le="5"} `, ` h_bucket{le="5"}`, `h_bucket {le="5"}`, `h_buckets{le="5"}`, `h_Bucket{le="5"}`, `hh_bucket{le="5"}`, `_bucket{le="5"}`, `bucket{le="5"}`, `{le="5"}`, `le="5"}`, `h{le="5"}`, `h_sum{le="5"}`, `i_bucket{le="5"}`,
		`h_bucket{le="5"}}`, `h_bucket{{le="5"}`, `h_bucket{le="le="5"}`, `h_bucket{le="5",le="5"}`, `h_bucket{x=",le="5"}`, `h_bucket{x="\",le="5"}`, `h_bucket{quantile="5"}`, `h_bucket_bucket{le="5"}`, `h_bucketle="5"}`,
	} {
		wantsError(t, series, histogramLines(series+" 1", `h_bucket{le="+Inf"} 1`, "h_sum 5", "h_count 1"), api.ErrForm, 5)
		wantsError(t, series, histogramLines(`h_bucket{le="4"} 1`, series+" 2", `h_bucket{le="+Inf"} 2`, "h_sum 9", "h_count 2"), api.ErrForm, 6)
	}
	for i, line := range exampleLines()[8:13] {
		for _, list := range []string{"", `k="q"`, `k="q\\"`, `l="q\""`, `k="q\"",l=""`, `j="",k="q\""`, `k="q\"",`, `,k="q\""`, `k="q\"" `} {
			other := strings.Replace(line, `k="q\""`, list, 1)
			for _, other := range []string{other, strings.Replace(other, "{,", "{", 1), strings.Replace(other, "{}", "", 1)} {
				if i == 0 || other == line {
					wantsModel(t, other, with(9+i, other))
				} else {
					wantsError(t, other, with(9+i, other), api.ErrForm, 9+i)
				}
			}
		}
	}
	wantsError(t, "braces without labels", histogramLines(`h_bucket{le="+Inf"} 0`, "h_sum{} 0", "h_count 0"), api.ErrForm, 6)
	wantsError(t, "braces without labels", histogramLines(`h_bucket{le="+Inf"} 0`, "h_sum 0", "h_count{} 0"), api.ErrForm, 7)
}

// TestMostLabels: as many labels as may be, of the longest names and values, beside the one label more.
func TestMostLabels(t *testing.T) {
	var l []api.Label
	for i := range api.MaxLabels {
		l = append(l, api.Label{Name: strings.Repeat("n", api.MaxName-1) + string(rune('a'+i)), Value: strings.Repeat("\n", api.MaxText)})
	}
	s := of(counter("c", 1), histogram("h", 5, 5, 1), histogram("i", 0), summary("s", 1, 2, 3, 4), summary("t", 0, 0, 0, 0))
	for i := range s.Values {
		s.Values[i].Desc.Labels = l
		s.Values[i].Desc.Help = strings.Repeat("\\", api.MaxText)
	}
	wants(t, "the most labels", written(t, s), s)
}

// summaryLines tells a text with one summary, s: its lines are the 5th and those behind it.
func summaryLines(l ...string) string {
	return text(append([]string{"# gnomon 3", "# refused 0", "# HELP s ", "# TYPE s summary"}, l...)...)
}

func TestSummariesOfNothing(t *testing.T) {
	wants(t, "nothing", summaryLines("s_sum 0", "s_count 0"), of(summary("s", 0, 0, 0, 0)))
	wants(t, "nothing, labels", summaryLines(`s_sum{x="1"} 0`, `s_count{x="1"} 0`), of(labelled(summary("s", 0, 0, 0, 0), "x", "1")))
	wants(t, "zeros", summaryLines(`s{quantile="0"} 0`, `s{quantile="1"} 0`, "s_sum 0", "s_count 1"), of(summary("s", 1, 0, 0, 0)))
	wants(t, "both zeros", summaryLines(`s{quantile="0"} -0`, `s{quantile="1"} 0`, "s_sum -0", "s_count 2"), of(summary("s", 2, minus, minus, 0)))
	for _, n := range append(notWhole(), "1", "2", "18446744073709551615", "0.0") {
		wantsError(t, n, summaryLines("s_sum 0", "s_count "+n), api.ErrForm, 6)
	}
	for _, n := range append(notWhole(), "0", "0.0", "+Inf") {
		wantsError(t, n, summaryLines(`s{quantile="0"} 0`, `s{quantile="1"} 0`, "s_sum 0", "s_count "+n), api.ErrForm, 8)
	}
}

// floats tells floats of every kind that may be, by their texts.
func floats() map[string]float64 {
	return map[string]float64{
		"0": 0, "-0": minus, "1": 1, "-1.5": -1.5, "0.1": 0.1, "100": 100, "123456.789": 123456.789,
		"0.000001": 0.000001, "1e-7": 0.0000001, "-1e-7": -0.0000001,
		"100000000000000000000": 1e20, "1e21": 1e21, "-1e21": -1e21, "1e23": 1e23,
		"5e-324": 5e-324, "-5e-324": -5e-324, "2.2250738585072014e-308": 0x1p-1022,
		"1.7976931348623157e308": mostFloat, "-1.7976931348623157e308": -mostFloat,
		"9007199254740992": 1 << 53, "9.7453140114e288": 0x1p960, "-9.7453140114e288": -0x1p960,
		"2147483648.0039062": 0x1p31 + 0x1p-8, "0.30000000000000004": 0.30000000000000004, "0.3333333333333333": 1.0 / 3,
	}
}

func TestSummaries(t *testing.T) {
	const least, most = "-1.7976931348623157e308", "1.7976931348623157e308"
	for digits, x := range floats() {
		wants(t, digits, summaryLines(`s{quantile="0"} `+digits, `s{quantile="1"} `+digits, "s_sum "+digits, "s_count 1"), of(summary("s", 1, x, x, x)))
		wants(t, digits, summaryLines(`s{quantile="0"} `+least, `s{quantile="1"} `+most, "s_sum "+digits, "s_count 2"), of(summary("s", 2, x, -mostFloat, mostFloat)))
		wants(t, digits, summaryLines(`s{quantile="0"} `+digits, `s{quantile="1"} `+most, "s_sum 2", "s_count 9223372036854775807"), of(summary("s", mostOf63, 2, x, mostFloat)))
		wants(t, digits, summaryLines(`s{quantile="0"} `+least, `s{quantile="1"} `+digits, "s_sum 2", "s_count 3"), of(summary("s", 3, 2, -mostFloat, x)))
	}
}

func TestWrongFloats(t *testing.T) {
	for _, x := range []string{"", "+0", "+1", "1.0", "01", "1e5", ".5", "1.", "1e+21", "1E21", "1e400", "inf", "Inf", "+inf", "-inf", "nan", "-NaN", "+NaN", "infinity", "5e-325", "0.10000000000000001", "1000000000000000000000", "0x1p0", "1_0", "1\r", "--1", "a", strings.Repeat("1", 500)} {
		wantsError(t, x, with(16, `s{quantile="0"} `+x), api.ErrForm, 16)
		wantsError(t, x, with(17, `s{quantile="1"} `+x), api.ErrForm, 17)
		wantsError(t, x, with(18, "s_sum "+x), api.ErrForm, 18)
		wantsError(t, x, with(22, "t_sum "+x), api.ErrForm, 22)
	}
}

// TestLabelsOfSummaries: the first line tells the labels, and all others have these.
func TestLabelsOfSummaries(t *testing.T) {
	for _, series := range wrongSeries("s") {
		rest, is := strings.CutPrefix(series, "s")
		if !is {
			continue
		}
		wantsError(t, series, summaryLines("s_sum"+rest+" 0", "s_count"+rest+" 0"), api.ErrForm, 5)
		list, braced := strings.CutPrefix(rest, "{")
		list, closed := strings.CutSuffix(list, "}")
		if braced && closed {
			line := "s{" + list + `,quantile="0"} 0`
			wantsError(t, line, summaryLines(line, "s{"+list+`,quantile="1"} 0`, "s_sum"+rest+" 0", "s_count"+rest+" 1"), api.ErrForm, 5)
		}
	}
	for _, series := range []string{
		"", "s", "s{", "s{}", `s{quantile="0"`, `s{quantile="0}`, `s{quantile=0}`, `s{quantile="0",}`, `s{,quantile="0"}`, `s{quantile="0",x="1"}`, `s{x="1"quantile="0"}`, `s{x="1", quantile="0"}`, `s{xquantile="0"}`, `s{quantile="1"}`, `s{quantile="00"}`, `s{quantile="0.0"}`, `s{quantile=""}`, `s{quantile="0.5"}`,
		`s{x="1"}`, `s{le="0"}`, `s{quantile="0"} `, ` s{quantile="0"}`, `s {quantile="0"}`, `ss{quantile="0"}`, `t{quantile="0"}`, `{quantile="0"}`, `quantile="0"}`, `s_sum{quantile="0"}`, `s_count{quantile="0"}`, `s_bucket{quantile="0"}`,
		`s{quantile="0"}}`, `s{{quantile="0"}`, `s{quantile="quantile="0"}`, `s{quantile="0",quantile="0"}`, `s{x=",quantile="0"}`, `s{x="\",quantile="0"}`, `squantile="0"}`,
		"s_su", "s_summ", "s_sum_", "s_sum:", "s_sum1", "s_sum_sum", "s_sum_count", "s_sums", "S_sum", "s_count", "_sum", "s_sum{", "s_sum{}", "s_sum}", "s_sum ",
	} {
		wantsError(t, series, summaryLines(series+" 0", "s_sum 0", "s_count 0"), api.ErrForm, 5)
		wantsError(t, series, summaryLines(series+" 0", "s_count 0"), api.ErrForm, 5)
		wantsError(t, series, summaryLines(series+" 0", `s{quantile="1"} 0`, "s_sum 0", "s_count 1"), api.ErrForm, 5)
	}
	for _, series := range []string{`s{quantile="0"}`, `s{x="1",quantile="1"}`, `s{quantile="1",}`, `s{quantile="2"}`, "s_sum", "s", `s{quantile="1"} `} {
		wantsError(t, series, with(17, series+" 1e21"), api.ErrForm, 17)
	}
	for _, series := range []string{`s_sum{x="1"}`, "s_sum{}", "s_count", "s_sum ", "S_sum", "s_su", "s"} {
		wantsError(t, series, with(18, series+" 1e21"), api.ErrForm, 18)
	}
	for _, series := range []string{`s_count{x="1"}`, "s_count{}", "s_sum", "s_count ", "S_count", "s_coun", "s_counts", "s"} {
		wantsError(t, series, with(19, series+" 2"), api.ErrForm, 19)
		wantsError(t, series, with(23, "t"+strings.TrimPrefix(series, "s")+" 0"), api.ErrForm, 23)
	}
	lines := []string{`s{k="v",quantile="0"} 1`, `s{k="v",quantile="1"} 1`, `s_sum{k="v"} 1`, `s_count{k="v"} 1`}
	wants(t, "labels", summaryLines(lines...), of(labelled(summary("s", 1, 1, 1, 1), "k", "v")))
	for i := 1; i < len(lines); i++ {
		for _, list := range []string{"", `k="w"`, `l="v"`, `k="v",l=""`, `j="",k="v"`, `k="v",`, `k="v" `} {
			other := strings.Replace(lines[i], `k="v"`, list, 1)
			for _, other := range []string{other, strings.Replace(other, "{,", "{", 1), strings.Replace(other, "{}", "", 1)} {
				changed := slices.Clone(lines)
				changed[i] = other
				wantsError(t, other, summaryLines(changed...), api.ErrForm, 5+i)
			}
		}
	}
	wantsError(t, "the other's labels", summaryLines(`s_sum{x="1"} 0`, `s_count{x="2"} 0`), api.ErrForm, 6)
	wantsError(t, "the other's labels", summaryLines(`s_sum{x="1"} 0`, "s_count 0"), api.ErrForm, 6)
	wantsError(t, "the other's labels", summaryLines("s_sum 0", `s_count{x="1"} 0`), api.ErrForm, 6)
}

// P17.1: what a series is told, when it was read to its last line.

func TestErrorsOfCheck(t *testing.T) {
	long := strings.Repeat("h", api.MaxText+1)
	for what, c := range map[string]struct {
		b    string
		e    api.Errno
		line int
	}{
		"a help that is too long":                {with(3, "# HELP a "+long), api.ErrBytes, 5},
		"a histogram's":                          {with(7, "# HELP h "+long), api.ErrBytes, 9},
		"a summary's":                            {with(14, "# HELP s "+long), api.ErrBytes, 16},
		"one that is too long when it is read":   {with(20, "# HELP t "+strings.Repeat(`\n`, api.MaxText+1)), api.ErrBytes, 22},
		"a help that is no UTF-8":                {with(3, "# HELP a \xff"), api.ErrUtf, 5},
		"a histogram's help":                     {with(7, "# HELP h \xed\xa0\x80"), api.ErrUtf, 9},
		"a summary's help":                       {with(14, "# HELP s a\xc3"), api.ErrUtf, 16},
		"a help that is both":                    {with(20, "# HELP t \xff"+long), api.ErrBytes, 22},
		"a counter below 0":                      {with(5, "a -1"), api.ErrRange, 5},
		"the least number":                       {with(6, `a{x="1"} -170141183460469231731687303715884105728`), api.ErrRange, 6},
		"a total that is too small":              {with(12, `h_sum{k="q\""} 36`), api.ErrRange, 9},
		"a total that is too great":              {with(12, `h_sum{k="q\""} 41`), api.ErrRange, 9},
		"a total below 0":                        {with(12, `h_sum{k="q\""} -40`), api.ErrRange, 9},
		"a total of nothing":                     {histogramLines(`h_bucket{le="+Inf"} 0`, "h_sum 1", "h_count 0"), api.ErrRange, 5},
		"too many values":                        {histogramLines(`h_bucket{le="0"} 9223372036854775808`, `h_bucket{le="+Inf"} 9223372036854775808`, "h_sum 0", "h_count 9223372036854775808"), api.ErrRange, 5},
		"too many values together":               {histogramLines(`h_bucket{le="0"} 1`, `h_bucket{le="1"} 18446744073709551615`, `h_bucket{le="+Inf"} 18446744073709551615`, "h_sum 18446744073709551614", "h_count 18446744073709551615"), api.ErrRange, 5},
		"a least value NaN":                      {with(16, `s{quantile="0"} NaN`), api.ErrRange, 16},
		"a least value +Inf":                     {with(16, `s{quantile="0"} +Inf`), api.ErrRange, 16},
		"a least value -Inf":                     {with(16, `s{quantile="0"} -Inf`), api.ErrRange, 16},
		"a greatest value NaN":                   {with(17, `s{quantile="1"} NaN`), api.ErrRange, 16},
		"a greatest value +Inf":                  {with(17, `s{quantile="1"} +Inf`), api.ErrRange, 16},
		"a sum NaN":                              {with(18, "s_sum NaN"), api.ErrRange, 16},
		"a sum -Inf":                             {with(18, "s_sum -Inf"), api.ErrRange, 16},
		"a least value above the greatest":       {with(16, `s{quantile="0"} 1e22`), api.ErrRange, 16},
		"a least value 0, the greatest -0":       {summaryLines(`s{quantile="0"} 0`, `s{quantile="1"} -0`, "s_sum 0", "s_count 1"), api.ErrRange, 5},
		"too many floats":                        {with(19, "s_count 9223372036854775808"), api.ErrRange, 16},
		"as many floats as a whole number may":   {with(19, "s_count 18446744073709551615"), api.ErrRange, 16},
		"a sum of nothing":                       {with(22, "t_sum 1"), api.ErrRange, 22},
		"a sum of nothing, below 0":              {with(22, "t_sum -0"), api.ErrRange, 22},
		"a sum of nothing, NaN":                  {with(22, "t_sum NaN"), api.ErrRange, 22},
		"a counter twice":                        {with(6, "a 7"), api.ErrTwice, 6},
		"a counter twice, another number":        {with(6, "a 8"), api.ErrTwice, 6},
		"a summary twice":                        {behind("t_sum 0", "t_count 0"), api.ErrTwice, 24},
		"a summary twice, with values":           {behind(`t{quantile="0"} 1`, `t{quantile="1"} 1`, "t_sum 1", "t_count 1"), api.ErrTwice, 24},
		"a histogram twice":                      {histogramLines(`h_bucket{le="+Inf"} 0`, "h_sum 0", "h_count 0", `h_bucket{le="+Inf"} 0`, "h_sum 0", "h_count 0"), api.ErrTwice, 8},
		"labels changed round":                   {with(5, `a{x="2"} 7`), api.ErrOrder, 6},
		"labels ahead of none":                   {with(5, `a{x="1"} 0`, 6, "a 7"), api.ErrOrder, 6},
		"a histogram's labels":                   {histogramLines(`h_bucket{x="2",le="+Inf"} 0`, `h_sum{x="2"} 0`, `h_count{x="2"} 0`, `h_bucket{x="10",le="+Inf"} 0`, `h_sum{x="10"} 0`, `h_count{x="10"} 0`), api.ErrOrder, 8},
		"a family that stands ahead":             {behind("# HELP b ", "# TYPE b counter", "b 1"), api.ErrOrder, 26},
		"a family that stands ahead, other kind": {behind("# HELP S ", "# TYPE S summary", "S_sum 0", "S_count 0"), api.ErrOrder, 26},
		"a family again":                         {behind("# HELP s ", "# TYPE s summary", `s_sum{x="1"} 0`, `s_count{x="1"} 0`), api.ErrOrder, 26},
		"a family again, unlike":                 {behind("# HELP s other", "# TYPE s counter", `s{x="1"} 0`), api.ErrOrder, 26},
		"a range ahead of twice":                 {with(6, "a -7"), api.ErrRange, 6},
		"a help ahead of a range":                {with(3, "# HELP a \xff", 5, "a -7"), api.ErrUtf, 5},
	} {
		wantsError(t, what, c.b, c.e, c.line)
		wantsModel(t, what, c.b)
	}
}

// TestJustWhatMayBe: the edges on the other side.
func TestJustWhatMayBe(t *testing.T) {
	for _, total := range []string{"37", "38", "39", "40"} {
		s := example()
		s.Values[2].Total.Lo, _ = strconv.ParseUint(total, 10, 64)
		wants(t, total, with(12, `h_sum{k="q\""} `+total), s)
	}
	for _, help := range []string{strings.Repeat("h", api.MaxText), strings.Repeat("\n", api.MaxText), strings.Repeat("ü", api.MaxText/2), " ", "  a", "\\", `"`, "\\n", "\ufffd", "# TYPE", "\r\t\x00"} {
		s := of(helped(counter("c", 1), help), helped(labelled(counter("c", 2), "x", "1"), help), helped(histogram("h", 0), help), helped(summary("s", 0, 0, 0, 0), help))
		wants(t, help, written(t, s), s)
	}
	for _, value := range []string{"", " ", "} 5", "\\", "\"", "\n", "\\n", "\\\"", `",le="5`, `le="5"}`, `quantile="0"`, "\ufffd", "\U0010ffff", "ü", "a\rb\tc\x00", strings.Repeat("\"", api.MaxText), strings.Repeat("v", api.MaxText)} {
		s := of(counter("c", 1, "x", value), labelled(histogram("h", 5, 5, 1), "x", value), labelled(summary("s", 1, 2, 3, 4), "x", value), labelled(summary("t", 0, 0, 0, 0), "x", value))
		wants(t, value, written(t, s), s)
	}
}

// TestUnlikeIsNeverTold: what snap.Check calls unlike, two families of one name beside each other, is wrong by its form.
func TestUnlikeIsNeverTold(t *testing.T) {
	wantsError(t, "another help", behind("# HELP t other", "# TYPE t summary", `t_sum{x="1"} 0`, `t_count{x="1"} 0`), api.ErrForm, 24)
	wantsError(t, "another kind", behind("# HELP t ", "# TYPE t histogram", `t_bucket{x="1",le="+Inf"} 0`, `t_sum{x="1"} 0`, `t_count{x="1"} 0`), api.ErrForm, 24)
}

func TestFamilies(t *testing.T) {
	s := of(
		helped(counter("a", 1), "A"), helped(counter("a", 2, "x", ""), "A"), helped(counter("a", 3, "x", "", "y", "2"), "A"), helped(counter("a", 4, "y", "1"), "A"),
		helped(histogram("b", 3, 3, 1), "B"), helped(labelled(histogram("b", 0), "x", "1"), "B"), helped(labelled(histogram("b", 5, 5, 1), "x", "2"), "B"),
		helped(summary("c", 1, 5, 5, 5), "C"), helped(labelled(summary("c", 0, 0, 0, 0), "x", "1"), "C"), helped(labelled(summary("c", 1, 5, 5, 5), "x", "2"), "C"), helped(labelled(summary("c", 0, 0, 0, 0), "x", "3"), "C"),
	)
	wants(t, "several series of each kind", text(
		"# gnomon 3", "# refused 0",
		"# HELP a A", "# TYPE a counter", "a 1", `a{x=""} 2`, `a{x="",y="2"} 3`, `a{y="1"} 4`,
		"# HELP b B", "# TYPE b histogram", `b_bucket{le="3"} 1`, `b_bucket{le="+Inf"} 1`, "b_sum 3", "b_count 1",
		`b_bucket{x="1",le="+Inf"} 0`, `b_sum{x="1"} 0`, `b_count{x="1"} 0`,
		`b_bucket{x="2",le="5"} 1`, `b_bucket{x="2",le="+Inf"} 1`, `b_sum{x="2"} 5`, `b_count{x="2"} 1`,
		"# HELP c C", "# TYPE c summary", `c{quantile="0"} 5`, `c{quantile="1"} 5`, "c_sum 5", "c_count 1", `c_sum{x="1"} 0`, `c_count{x="1"} 0`,
		`c{x="2",quantile="0"} 5`, `c{x="2",quantile="1"} 5`, `c_sum{x="2"} 5`, `c_count{x="2"} 1`, `c_sum{x="3"} 0`, `c_count{x="3"} 0`), s)
	names := of(counter("A", 1), summary("a", 0, 0, 0, 0), counter("a:", 3), counter("a_", 4), histogram("a_sum_", 0), histogram("aa", 0), labelled(histogram("aa", 0), "x", "1"), counter("b", 7))
	wants(t, "names that go on", written(t, names), names)
}

// many tells a text of so many counters, each a family of its own: the line of the counter n, from 0 on, is 5 + 3 n.
func many(n int) string {
	lines := []string{"# gnomon 3", "# refused 0"}
	for i := range n {
		name := "n" + strconv.Itoa(1000+i)
		lines = append(lines, "# HELP "+name+" ", "# TYPE "+name+" counter", name+" 1")
	}
	return text(lines...)
}

func TestMostInstruments(t *testing.T) {
	wantsModel(t, "256", many(256))
	if s, e, at := scrape.Parse([]byte(many(256))); e != api.OK || at != 0 || len(s.Values) != 256 {
		t.Errorf("%v at %d: %d values", e, at, len(s.Values))
	}
	wantsError(t, "257", many(257), api.ErrMany, 5+3*256)
	wantsError(t, "258", many(258), api.ErrMany, 5+3*256)
	last := many(256) + "# HELP z \n# TYPE z "
	first := 5 + 3*256
	wantsError(t, "a histogram", last+"histogram\nz_bucket{le=\"5\"} 1\nz_bucket{le=\"+Inf\"} 1\nz_sum 5\nz_count 1\n", api.ErrMany, first)
	wantsError(t, "a summary", last+"summary\nz{quantile=\"0\"} 1\nz{quantile=\"1\"} 1\nz_sum 5\nz_count 1\n", api.ErrMany, first)
	wantsError(t, "too many ahead of the range", last+"counter\nz -1\n", api.ErrMany, first)
	wantsError(t, "too many ahead of the order", many(256)+"# HELP a \n# TYPE a counter\na 1\n", api.ErrMany, first)
	wantsError(t, "too many ahead of a later form", last+"counter\nz 1\nz\n", api.ErrMany, first)
	wantsError(t, "the form ahead of too many", last+"counter\nz +1\n", api.ErrForm, first)
	wantsError(t, "the form ahead of too many", last+"histogram\nz_bucket{le=\"+Inf\"} 0\nz_sum 0\nz_count 1\n", api.ErrForm, first+2)
	wantsError(t, "no series", last+"counter\n", api.ErrForm, first)
	wantsError(t, "a series of the last family", many(256)+"n1255{x=\"1\"} 1\n", api.ErrMany, first-2)
	wantsError(t, "a range ahead of too many", strings.Replace(many(257), "n1255 1\n", "n1255 -1\n", 1), api.ErrRange, first-3)
}

// TestWhichFaultIsFirst: the one of the line ahead is told, a value's when its last line was read.
func TestWhichFaultIsFirst(t *testing.T) {
	for what, c := range map[string]struct {
		b    string
		e    api.Errno
		line int
	}{
		"two lines":                             {with(5, "a +7", 2, "# refused -1"), api.ErrForm, 2},
		"a value, then a line":                  {with(5, "a -7", 6, "a{ 0"), api.ErrRange, 5},
		"a line, then a value":                  {with(5, "a +7", 6, `a{x="1"} -1`), api.ErrForm, 5},
		"two values":                            {with(5, "a -7", 12, `h_sum{k="q\""} 4000`), api.ErrRange, 5},
		"a line within the value that is wrong": {with(12, `h_sum{k="q\""} 4000`, 13, `h_count{k="q\""} 1`), api.ErrForm, 13},
		"a line within, ahead of the sum":       {with(12, `h_sum{k="q\""} 4000`, 11, `h_bucket{k="q\"",le="+Inf"} 3`), api.ErrForm, 11},
		"a help that is wrong, a line of it":    {with(3, "# HELP a \xff", 5, "a +7"), api.ErrForm, 5},
		"a help that is wrong, its second line": {with(3, "# HELP a \xff", 4, "# TYPE a gauge"), api.ErrForm, 4},
		"a help that is wrong, no series":       {text("# gnomon 3", "# refused 0", "# HELP a \xff", "# TYPE a counter"), api.ErrForm, 5},
		"a NaN, then a line":                    {with(16, `s{quantile="0"} NaN`, 19, "s_count 0"), api.ErrForm, 19},
		"a NaN, then the text's end":            {text(append(exampleLines()[:15], `s{quantile="0"} NaN`)...), api.ErrForm, 17},
		"a value, its last line not ended":      {strings.TrimSuffix(with(22, "t_sum 1"), "\n"), api.ErrForm, 23},
		"a value, the next line not ended":      {strings.TrimSuffix(with(22, "t_sum 1")+"x", "\n"), api.ErrRange, 22},
		"twice, then a line":                    {with(6, "a 7", 7, "# HELP h"), api.ErrTwice, 6},
		"a family's order, then its next line":  {behind("# HELP b ", "# TYPE b counter", "b 1", "b"), api.ErrOrder, 26},
		"a family's order, a line of its value": {behind("# HELP b ", "# TYPE b summary", "b_sum 0", "b_count 1"), api.ErrForm, 27},
	} {
		wantsError(t, what, c.b, c.e, c.line)
		wantsModel(t, what, c.b)
	}
}

// P17.1: texts that are long.

// padded tells a snapshot whose text has just so many bytes: counters of the name a, with long labels, and a help that takes what is left.
func padded(t *testing.T, bytes int, l ...api.Value) api.Snapshot {
	t.Helper()
	var pad []api.Value
	all := func(help string) api.Snapshot {
		for i := range pad {
			pad[i].Desc.Help = help
		}
		return api.Snapshot{Precision: 3, Refused: 1, Values: slices.Concat(pad, l)}
	}
	next := func(n int, value string) api.Value {
		v := counter("a", 1, "n", strconv.Itoa(1000+len(pad)))
		for i := range n {
			v.Desc.Labels = append(v.Desc.Labels, api.Label{Name: "n" + string(rune('a'+i)), Value: value})
		}
		return v
	}
	pad = append(pad, next(0, ""))
	left := bytes - len(written(t, all("")))
	fill := func(n int, value string) {
		for {
			one := next(n, value)
			cost := len(written(t, of(counter("a", 1), one))) - len(written(t, of(counter("a", 1))))
			if cost > left {
				return
			}
			pad = append(pad, one)
			left -= cost
		}
	}
	fill(15, strings.Repeat("\n", api.MaxText))
	fill(1, strings.Repeat("v", 1000))
	return all(strings.Repeat("h", left))
}

func TestJustMaxPage(t *testing.T) {
	for what, l := range map[string][]api.Value{
		"a counter":            {counter("c", 5)},
		"a histogram":          {histogram("h", 40, 5, 1, 24, 1)},
		"a summary":            {summary("s", 2, 1e21, 0.5, 1e21)},
		"a summary of nothing": {summary("s", 0, 0, 0, 0)},
	} {
		s := padded(t, api.MaxPage, l...)
		b := written(t, s)
		if len(b) != api.MaxPage {
			t.Fatalf("the test's own text has %d bytes", len(b))
		}
		wants(t, what, b, s)
		wantsError(t, what, b[:len(b)-1], api.ErrForm, strings.Count(b, "\n"))
		for _, more := range []string{"\n", "x", "\x00"} {
			wantsError(t, what, b+more, api.ErrBytes, 0)
			wantsError(t, what, b[1:]+more, api.ErrForm, 1)
		}
		wantsError(t, what, "x"+b, api.ErrBytes, 0)
		less := padded(t, api.MaxPage-1, l...)
		wants(t, what, written(t, less), less)
		// What is one byte too long is told to be so, though a snapshot of it may be.
		help := helped(l[0], "h")
		over := slices.Concat(s.Values[:len(s.Values)-1], []api.Value{help})
		if _, e := expo.Write(api.Snapshot{Precision: 3, Refused: 1, Values: over}); e != api.ErrBytes {
			t.Errorf("%s: one more byte is written: %v", what, e)
		}
		wantsError(t, what, strings.Replace(b, "# HELP "+help.Desc.Name+" \n", "# HELP "+help.Desc.Name+" h\n", 1), api.ErrBytes, 0)
	}
}

// TestLongTexts: lines that go on to the text's end.
func TestLongTexts(t *testing.T) {
	begins := []string{"# gnomon ", "# gnomon 3\n# refused ", "# gnomon 3\n# refused 0\n# HELP "}
	for _, kind := range []string{"counter\na ", "counter\na{", "counter\na{x=\"", "histogram\na_bucket{", "histogram\na_bucket{le=\"", "histogram\na_bucket{x=\"", "summary\na{quantile=\"0\"} ", "summary\na_sum ", "summary\na_sum{x=\""} {
		begins = append(begins, "# gnomon 3\n# refused 0\n# HELP a \n# TYPE a "+kind)
	}
	for _, c := range []string{"x", "\n", " ", "#", "\\", "\"", "{", "\x00", "\xff", "0"} {
		full := strings.Repeat(c, api.MaxPage)
		wantsError(t, c, full, api.ErrForm, 1)
		wantsError(t, c, full+c, api.ErrBytes, 0)
		for _, begin := range begins {
			wantsError(t, cut(begin+c), begin+full[:api.MaxPage-len(begin)-1]+"\n", api.ErrForm, strings.Count(begin, "\n")+1)
		}
	}
	help := "# gnomon 3\n# refused 0\n# HELP a " + strings.Repeat("h", api.MaxPage-100)
	wantsError(t, "a long help", help+"\n# TYPE a counter\na 1\n", api.ErrBytes, 5)
	wantsError(t, "a long help, and no more", help+"\n", api.ErrForm, 4)
	wantsError(t, "a long help that is none", help+"\\\n# TYPE a counter\na 1\n", api.ErrForm, 3)
	wantsError(t, "far too long", strings.Repeat("# gnomon 3\n", api.MaxPage), api.ErrBytes, 0)
}

// firstBuckets tells a histogram with one value in each of the first n buckets of the greatest precision.
func firstBuckets(n int) api.Value {
	v := api.Value{Desc: api.Desc{Kind: api.Histogram, Name: "h"}, N: uint64(n)}
	total := new(big.Int)
	for i := range n {
		v.Counts = append(v.Counts, api.Count{Index: i, N: 1})
		low, _ := bucket.Low(api.MaxPrecision, i)
		total.Add(total, big.NewInt(low))
	}
	v.Total = narrow(total)
	return v
}

// TestManyBuckets: the greatest histogram whose text is not too long; and one nearly as great with as many values behind it as may be.
func TestManyBuckets(t *testing.T) {
	fits := func(n int, more ...api.Value) (api.Snapshot, bool) {
		s := api.Snapshot{Precision: api.MaxPrecision, Values: append([]api.Value{firstBuckets(n)}, more...)}
		_, e := expo.Write(s)
		return s, e == api.OK
	}
	var more []api.Value
	for i := range api.MaxInstruments - 1 {
		more = append(more, counter("z"+strconv.Itoa(1000+i), 1))
	}
	for _, l := range [][]api.Value{nil, more} {
		n := sort.Search(api.MaxPage/len("h_bucket{le=\"0\"} 1\n"), func(n int) bool { _, ok := fits(n+1, l...); return !ok })
		s, _ := fits(n, l...)
		wants(t, n, written(t, s), s)
	}
}

// TestEveryBucket: of each precision all buckets, or many of them, with the first and the last one.
func TestEveryBucket(t *testing.T) {
	for p := 1; p <= api.MaxPrecision; p++ {
		v := api.Value{Desc: api.Desc{Kind: api.Histogram, Name: "h"}}
		total := new(big.Int)
		length := bucket.Length(p)
		for i := range length {
			if i%(length/2000+1) > 0 && i > 40 && i < length-40 {
				continue
			}
			n := uint64(i%3 + 1)
			v.Counts = append(v.Counts, api.Count{Index: i, N: n})
			v.N += n
			low, _ := bucket.Low(p, i)
			total.Add(total, new(big.Int).Mul(big.NewInt(low), new(big.Int).SetUint64(n)))
		}
		v.Total = narrow(total)
		s := api.Snapshot{Precision: p, Values: []api.Value{v}}
		wants(t, p, written(t, s), s)
	}
}

// P17.2: there and back, back and there.

func TestThereAndBack(t *testing.T) {
	r := rand.New(rand.NewSource(171))
	for i := range 6000 {
		s := some(r, one(r, 0, 1, 5, 20))
		wants(t, i, written(t, s), s)
	}
	for i := range 100 {
		s := some(r, api.MaxInstruments)
		wants(t, i, written(t, s), s)
	}
}

// disturb tells a text that was changed at some place.
func disturb(r *rand.Rand, b string) string {
	lines := strings.SplitAfter(b, "\n")
	i, j := r.Intn(len(lines)), r.Intn(len(lines))
	at := r.Intn(len(b) + 1)
	odd := one(r, "\n", " ", "\r", "\"", "\\", ",", "{", "}", "0", "1", "9", "-", "+", ".", "e", "le=\"", "quantile=\"0\"", "_sum", "_count", "_bucket", "# HELP ", "# TYPE ", "a", "\xff", "ü", "+Inf", "NaN", "\x00")
	switch r.Intn(11) {
	case 0:
		lines = slices.Delete(lines, i, i+1)
	case 1:
		lines = slices.Insert(lines, i, lines[j])
	case 2:
		lines[i], lines[j] = lines[j], lines[i]
	case 3:
		lines[i] = lines[j]
	case 4:
		return b[:at]
	case 5:
		return b[:at] + odd + b[at:]
	case 6:
		return b[:at] + odd + b[min(len(b), at+len(odd)):]
	case 7:
		return b[:at] + b[min(len(b), at+1+r.Intn(3)):]
	case 8:
		lines[i] = lines[i][:r.Intn(len(lines[i])+1)] + "\n"
	default:
		// The number of a line is another one.
		if ahead := strings.LastIndex(lines[i], " "); ahead >= 0 {
			lines[i] = lines[i][:ahead+1] + someNumber(r) + "\n"
		}
	}
	return strings.Join(lines, "")
}

// someNumber tells a text that some line may have as its number, or nearly.
func someNumber(r *rand.Rand) string {
	return one(r, "0", "1", "2", "3", "-1", "-0", "+1", "01", "1.5", "0.5", "1e21", "NaN", "+Inf", "-Inf", "9223372036854775807", "9223372036854775808", "18446744073709551615", "18446744073709551616",
		"170141183460469231731687303715884105727", "-170141183460469231731687303715884105728", "170141183460469231731687303715884105728", "", "counter", "histogram", "summary", strconv.FormatUint(r.Uint64()>>r.Intn(64), 10), strconv.FormatFloat(r.NormFloat64(), 'f', -1, 64))
}

// shuffled tells the text of a snapshot in which the lines of some value, or of the head of a family, stand twice, elsewhere or not at all, or in which a help may not be.
func shuffled(t *testing.T, r *rand.Rand, s api.Snapshot) string {
	t.Helper()
	blocks := []string{written(t, api.Snapshot{Precision: s.Precision, Refused: s.Refused})}
	for i, v := range s.Values {
		lines := strings.SplitAfter(written(t, api.Snapshot{Precision: s.Precision, Values: []api.Value{v}}), "\n")
		if i == 0 || s.Values[i-1].Desc.Name != v.Desc.Name {
			blocks = append(blocks, strings.Join(lines[2:4], ""))
		}
		blocks = append(blocks, strings.Join(lines[4:], ""))
	}
	i, j := r.Intn(len(blocks)), r.Intn(len(blocks))
	switch r.Intn(5) {
	case 0:
		blocks[i], blocks[j] = blocks[j], blocks[i]
	case 1:
		blocks = slices.Insert(blocks, i+1, blocks[i])
	case 2:
		blocks = slices.Insert(blocks, j, blocks[i])
	case 3:
		blocks = slices.Delete(blocks, i, i+1)
	case 4:
		blocks[i] = strings.Replace(blocks[i], "\n# TYPE", one(r, "\xff", strings.Repeat("h", api.MaxText), strings.Repeat("\\n", api.MaxText-3))+"\n# TYPE", 1)
	}
	return strings.Join(blocks, "")
}

// TestManyTexts: texts that were changed in one or a few places, held against the second reader; those that are taken are told by Write.
func TestManyTexts(t *testing.T) {
	r := rand.New(rand.NewSource(172))
	told := map[api.Errno]int{}
	for i := range 30000 {
		b := text(one(r, exampleLines(), otherLines())...)
		if r.Intn(4) > 0 {
			b = written(t, some(r, one(r, 1, 3, 8)))
		}
		for range 1 + r.Intn(2)*r.Intn(3) {
			b = disturb(r, b)
		}
		told[wantsModel(t, i, b)]++
	}
	for i := range 10000 {
		told[wantsModel(t, i, shuffled(t, r, some(r, one(r, 3, 8, 20))))]++
	}
	for e, least := range map[api.Errno]int{api.OK: 1000, api.ErrForm: 10000, api.ErrRange: 300, api.ErrTwice: 300, api.ErrOrder: 150, api.ErrUtf: 100, api.ErrBytes: 100} {
		if told[e] < least {
			t.Errorf("%v was told only %d times: %v", e, told[e], told)
		}
	}
}

// TestPieces: texts that are put together of pieces of lines.
func TestPieces(t *testing.T) {
	pieces := []string{
		"# gnomon 3\n", "# refused 0\n", "# HELP a \n", "# HELP b x\n", "# TYPE a counter\n", "# TYPE a summary\n", "# TYPE b histogram\n", "# TYPE b summary\n", "a 1\n", "a{x=\"1\"} 2\n", "a{y=\"\"} 3\n",
		"a_sum 0\n", "a_count 0\n", "b_bucket{le=\"1\"} 1\n", "b_bucket{le=\"2\"} 2\n", "b_bucket{le=\"+Inf\"} 2\n", "b_bucket{le=\"+Inf\"} 0\n", "b_sum 3\n", "b_sum 0\n", "b_count 2\n", "b_count 0\n", "b{quantile=\"0\"} 1\n", "b{quantile=\"1\"} 2\n",
		"\n", " ", "a", "b", "0", "\"", "}",
	}
	r := rand.New(rand.NewSource(173))
	for i := range 20000 {
		b := one(r, "", pieces[0], pieces[0]+pieces[1], pieces[0]+pieces[1]+pieces[2]+pieces[4], pieces[0]+pieces[1]+pieces[3]+pieces[6], pieces[0]+pieces[1]+pieces[3]+pieces[7])
		for range r.Intn(7) {
			b += one(r, pieces...)
		}
		wantsModel(t, i, b)
	}
}

// TestAnyBytes: whatever bytes there are, Parse ends, and nothing of it is taken.
func TestAnyBytes(t *testing.T) {
	wantsError(t, "nothing", "", api.ErrForm, 1)
	if s, e, at := scrape.Parse(nil); e != api.ErrForm || at != 1 || !isZero(s) {
		t.Errorf("nil: %v at %d", e, at)
	}
	for c := range 256 {
		wantsError(t, c, string([]byte{byte(c)}), api.ErrForm, 1)
		wantsError(t, c, string([]byte{byte(c), '\n'}), api.ErrForm, 1)
	}
	r := rand.New(rand.NewSource(174))
	for i := range 3000 {
		b := make([]byte, r.Intn(300))
		for j := range b {
			b[j] = byte(r.Intn(256))
		}
		wantsError(t, i, string(b), api.ErrForm, 1)
		wantsModel(t, i, "# gnomon 3\n# refused 0\n"+string(b))
		wantsModel(t, i, text(exampleLines()...)+string(b))
	}
}

// FuzzParse holds any bytes against the second reader.
func FuzzParse(f *testing.F) {
	f.Add([]byte(text(exampleLines()...)))
	f.Add([]byte(text(otherLines()...)))
	f.Add([]byte(many(3)))
	f.Fuzz(func(t *testing.T, b []byte) { wantsModel(t, "fuzzed", string(b)) })
}

// P17.3: R3.

// roomy tells bytes with spare room behind them.
func roomy(b string) []byte { return append([]byte(b), "spare room\n# HELP z \n"...)[:len(b)] }

func TestBytesStay(t *testing.T) {
	r := rand.New(rand.NewSource(175))
	for i := range 3000 {
		text := written(t, some(r, 5))
		if r.Intn(2) == 0 {
			text = disturb(r, text)
		}
		b := roomy(text)
		was := bytes.Clone(b[:cap(b)])
		s, _, _ := scrape.Parse(b)
		spoil(s)
		if !bytes.Equal(b[:cap(b)], was) {
			t.Fatalf("%d: the bytes were changed: %s", i, cut(text))
		}
		// Nor does what stands in the spare room count.
		wantsModel(t, i, text)
		again, e, at := scrape.Parse(b)
		want, f, line := model(text)
		if e != f || at != line || !snap.Same(again, want) {
			t.Fatalf("%d: spare room is read", i)
		}
	}
}

func fillList[T any](l []T, x T) {
	l = l[:cap(l)]
	for i := range l {
		l[i] = x
	}
}

// spoil writes over all lists of a snapshot, their spare room too.
func spoil(s api.Snapshot) {
	for _, v := range s.Values {
		fillList(v.Desc.Labels, api.Label{Name: "spoiled"})
		fillList(v.Counts, api.Count{Index: -9, N: 9})
	}
	fillList(s.Values, api.Value{N: 99})
}

// deep tells a snapshot with all spare room, as lists of its own.
func deep(s api.Snapshot) api.Snapshot {
	s.Values = slices.Clone(s.Values[:cap(s.Values)])
	for i := range s.Values {
		v := &s.Values[i]
		v.Desc.Labels = slices.Clone(v.Desc.Labels[:cap(v.Desc.Labels)])
		v.Counts = slices.Clone(v.Counts[:cap(v.Counts)])
	}
	return s
}

func TestAnswerIsItsOwners(t *testing.T) {
	r := rand.New(rand.NewSource(176))
	for i := range 1500 {
		s := some(r, one(r, 1, 5, 20))
		b := []byte(written(t, s))
		first, _, _ := scrape.Parse(b)
		want := deep(first)
		second, _, _ := scrape.Parse(b)
		spoil(second)
		if !snap.Same(deep(first), want) {
			t.Fatalf("%d: two answers share memory", i)
		}
		for j := range b {
			b[j] = 'X'
		}
		if !snap.Same(deep(first), want) || !snap.Same(first, s) {
			t.Fatalf("%d: an answer shares memory with the bytes", i)
		}
	}
}

// TestNoTwoListsAreShared: whoever writes over one list of an answer, or appends to it, changes no other one.
func TestNoTwoListsAreShared(t *testing.T) {
	r := rand.New(rand.NewSource(177))
	all := []api.Snapshot{example(), of(counter("a", 1, "x", "1"), counter("a", 1, "x", "2"), counter("b", 1, "x", "1"), labelled(histogram("h", 5, 5, 1), "x", "1"), labelled(histogram("h", 5, 5, 1), "x", "2"))}
	for range 500 {
		all = append(all, some(r, 12))
	}
	for i, s := range all {
		b := []byte(written(t, s))
		got, _, _ := scrape.Parse(b)
		for j, v := range got.Values {
			was := deep(got)
			fillList(v.Desc.Labels, api.Label{Name: "spoiled"})
			was.Values[j].Desc.Labels = v.Desc.Labels[:cap(v.Desc.Labels)]
			if !snap.Same(deep(got), was) {
				t.Fatalf("%d: the labels of %d share memory", i, j)
			}
			fillList(v.Counts, api.Count{Index: -9, N: 9})
			was.Values[j].Counts = v.Counts[:cap(v.Counts)]
			if !snap.Same(deep(got), was) {
				t.Fatalf("%d: the counts of %d share memory", i, j)
			}
		}
	}
}

// TestManyAtOneTime: nothing is kept from call to call, so goroutines that read one text don't disturb one another.
func TestManyAtOneTime(t *testing.T) {
	good, wrong := roomy(text(exampleLines()...)), roomy(with(13, `h_count{k="q\""} 1`))
	var all sync.WaitGroup
	for i := range 8 {
		all.Go(func() {
			for range 300 {
				if s, e, at := scrape.Parse(good); e != api.OK || at != 0 || !snap.Same(s, example()) {
					t.Errorf("%d: %v at %d", i, e, at)
				}
				if s, e, at := scrape.Parse(wrong); e != api.ErrForm || at != 13 || !isZero(s) {
					t.Errorf("%d: %v at %d", i, e, at)
				}
			}
		})
	}
	all.Wait()
}

// TestNoFloatIsLost: the bits of floats come back, of many floats.
func TestNoFloatIsLost(t *testing.T) {
	r := rand.New(rand.NewSource(178))
	for i := range 3000 {
		x, y, z := someFloat(r), someFloat(r), math.Float64frombits(r.Uint64()&^(1<<62))
		s := of(summary("s", 1, z, min(x, y), max(x, y)))
		got, e, _ := scrape.Parse([]byte(written(t, s)))
		if e != api.OK || math.Float64bits(got.Values[0].Sum) != math.Float64bits(z) || math.Float64bits(got.Values[0].Min) != math.Float64bits(min(x, y)) || math.Float64bits(got.Values[0].Max) != math.Float64bits(max(x, y)) {
			t.Errorf("%d: %v of %v", i, got, s)
		}
	}
}
