package expo_test

import (
	"bytes"
	"cmp"
	"math"
	"math/big"
	"math/rand"
	"slices"
	"sort"
	"strconv"
	"strings"
	"sync"
	"testing"

	"gnomon/api"
	"gnomon/bucket"
	"gnomon/expo"
	"gnomon/real"
	"gnomon/snap"
)

var minus = math.Copysign(0, -1)

const (
	mostOf63  = math.MaxInt64
	mostOf64  = math.MaxUint64
	mostFloat = math.MaxFloat64
)

// greatest is 2^127 - 1.
var greatest = api.Int{Hi: math.MaxInt64, Lo: math.MaxUint64}

// labels tells a list of labels, name and value by turns.
func labels(l ...string) []api.Label {
	var out []api.Label
	for i := 0; i < len(l); i += 2 {
		out = append(out, api.Label{Name: l[i], Value: l[i+1]})
	}
	return out
}

func counter(name string, n uint64, l ...string) api.Value {
	return api.Value{Desc: api.Desc{Kind: api.Counter, Name: name, Labels: labels(l...)}, Total: api.Int{Lo: n}}
}

// histogram tells one of counts, index and number by turns, whose N is theirs.
func histogram(name string, total uint64, counts ...uint64) api.Value {
	v := api.Value{Desc: api.Desc{Kind: api.Histogram, Name: name}, Total: api.Int{Lo: total}}
	for i := 0; i < len(counts); i += 2 {
		v.Counts = append(v.Counts, api.Count{Index: int(counts[i]), N: counts[i+1]})
		v.N += counts[i+1]
	}
	return v
}

func summary(name string, n uint64, sum, least, most float64) api.Value {
	return api.Value{Desc: api.Desc{Kind: api.Summary, Name: name}, N: n, Sum: sum, Min: least, Max: most}
}

// but tells a value that was changed.
func but(v api.Value, change func(v *api.Value)) api.Value {
	change(&v)
	return v
}

// helped tells a value with another help.
func helped(v api.Value, help string) api.Value {
	v.Desc.Help = help
	return v
}

// labelled tells a value with other labels, name and value by turns.
func labelled(v api.Value, l ...string) api.Value {
	v.Desc.Labels = labels(l...)
	return v
}

// of tells the snapshot of the precision 3 with these values.
func of(l ...api.Value) api.Snapshot { return api.Snapshot{Precision: 3, Values: l} }

// text tells a text of these lines.
func text(l ...string) string { return strings.Join(l, "\n") + "\n" }

// whole tells a number of 128 bits as one of any length.
func whole(a api.Int) *big.Int {
	n := new(big.Int).Lsh(big.NewInt(a.Hi), 64)
	return n.Add(n, new(big.Int).SetUint64(a.Lo))
}

// narrow tells a number as one of 128 bits.
func narrow(n *big.Int) api.Int {
	lo := new(big.Int).And(n, new(big.Int).SetUint64(mostOf64)).Uint64()
	return api.Int{Hi: new(big.Int).Rsh(n, 64).Int64(), Lo: lo}
}

// modelHigh tells the greatest value of a bucket: of those above the first 2^p, the least value of the next one, less 1.
func modelHigh(p, i int) string {
	if i < 1<<p {
		return strconv.Itoa(i)
	}
	row, place := i>>p-1, i%(1<<p)
	next := new(big.Int).Lsh(big.NewInt(int64(1<<p+place+1)), uint(row))
	return next.Sub(next, big.NewInt(1)).String()
}

var (
	inValue = strings.NewReplacer("\\", "\\\\", "\"", "\\\"", "\n", "\\n")
	inHelp  = strings.NewReplacer("\\", "\\\\", "\n", "\\n")
)

// modelSeries tells the text of a series.
func modelSeries(name string, l ...api.Label) string {
	var all []string
	for _, one := range l {
		all = append(all, one.Name+"=\""+inValue.Replace(one.Value)+"\"")
	}
	if len(all) == 0 {
		return name
	}
	return name + "{" + strings.Join(all, ",") + "}"
}

// modelValue tells the lines of a value, as the chapter's table lists them.
func modelValue(p int, v api.Value) []string {
	var out []string
	line := func(number, ending string, more ...string) {
		out = append(out, modelSeries(v.Desc.Name+ending, slices.Concat(v.Desc.Labels, labels(more...))...)+" "+number)
	}
	n := strconv.FormatUint(v.N, 10)
	switch v.Desc.Kind {
	case api.Counter:
		line(whole(v.Total).String(), "")
	case api.Histogram:
		sum := new(big.Int)
		for _, c := range v.Counts {
			sum.Add(sum, new(big.Int).SetUint64(c.N))
			line(sum.String(), "_bucket", "le", modelHigh(p, c.Index))
		}
		line(n, "_bucket", "le", "+Inf")
		line(whole(v.Total).String(), "_sum")
		line(n, "_count")
	case api.Summary:
		if v.N > 0 {
			line(real.Print(v.Min), "", "quantile", "0")
			line(real.Print(v.Max), "", "quantile", "1")
		}
		line(real.Print(v.Sum), "_sum")
		line(n, "_count")
	}
	return out
}

// model tells the text of a snapshot that may be, line by line, by a map of the families.
func model(s api.Snapshot) string {
	out := []string{"# gnomon " + strconv.Itoa(s.Precision), "# refused " + strconv.FormatUint(s.Refused, 10)}
	families := map[string][]api.Value{}
	var names []string
	for _, v := range s.Values {
		if families[v.Desc.Name] == nil {
			names = append(names, v.Desc.Name)
		}
		families[v.Desc.Name] = append(families[v.Desc.Name], v)
	}
	slices.Sort(names)
	for _, name := range names {
		first := families[name][0].Desc
		kind := []string{api.Counter: "counter", api.Histogram: "histogram", api.Summary: "summary"}[first.Kind]
		out = append(out, "# HELP "+name+" "+inHelp.Replace(first.Help), "# TYPE "+name+" "+kind)
		for _, v := range families[name] {
			out = append(out, modelValue(s.Precision, v)...)
		}
	}
	return text(out...)
}

// cut tells a text that is not too long to be shown.
func cut(s string) string { return strconv.Quote(s[:min(len(s), 2000)]) }

func wants(t *testing.T, what any, s api.Snapshot, want string) {
	t.Helper()
	if got, e := expo.Write(s); e != api.OK || string(got) != want {
		t.Errorf("%v: Write tells %v, %d bytes: %s, want %d: %s", what, e, len(got), cut(string(got)), len(want), cut(want))
	}
}

// wantsLines holds all lines of a snapshot but the two at its head.
func wantsLines(t *testing.T, what any, s api.Snapshot, lines ...string) {
	t.Helper()
	wants(t, what, s, "# gnomon "+strconv.Itoa(s.Precision)+"\n# refused "+strconv.FormatUint(s.Refused, 10)+"\n"+text(lines...))
}

func wantsError(t *testing.T, what any, s api.Snapshot, e api.Errno) {
	t.Helper()
	if got, f := expo.Write(s); f != e || len(got) > 0 {
		t.Errorf("%v: Write tells %v and %d bytes, want %v", what, f, len(got), e)
	}
}

// wantsMay: a test of a snapshot that may not be would test nothing.
func wantsMay(t *testing.T, what any, s api.Snapshot) {
	t.Helper()
	if e, at := snap.Check(s); e != api.OK {
		t.Fatalf("%v: the test's own snapshot may not be: %v at %d of %d values", what, e, at, len(s.Values))
	}
}

// P16.1: the text.

func example() api.Snapshot {
	return api.Snapshot{Precision: 3, Refused: 2, Values: []api.Value{
		helped(counter("a", 7), "all"),
		helped(counter("a", 0, "x", "1"), "all"),
		labelled(histogram("h", 40, 5, 1, 24, 1), "k", "q\""),
		summary("s", 2, 1e21, 0.5, 1e21),
		summary("t", 0, 0, 0, 0),
	}}
}

func exampleText() string {
	return text(
		`# gnomon 3`,
		`# refused 2`,
		`# HELP a all`,
		`# TYPE a counter`,
		`a 7`,
		`a{x="1"} 0`,
		`# HELP h `,
		`# TYPE h histogram`,
		`h_bucket{k="q\"",le="5"} 1`,
		`h_bucket{k="q\"",le="35"} 2`,
		`h_bucket{k="q\"",le="+Inf"} 2`,
		`h_sum{k="q\""} 40`,
		`h_count{k="q\""} 2`,
		`# HELP s `,
		`# TYPE s summary`,
		`s{quantile="0"} 0.5`,
		`s{quantile="1"} 1e21`,
		`s_sum 1e21`,
		`s_count 2`,
		`# HELP t `,
		`# TYPE t summary`,
		`t_sum 0`,
		`t_count 0`,
	)
}

func TestExample(t *testing.T) {
	wants(t, "the chapter's example", example(), exampleText())
	wants(t, "without values", api.Snapshot{Precision: 1}, "# gnomon 1\n# refused 0\n")
	wants(t, "an empty list", api.Snapshot{Precision: 1, Values: []api.Value{}}, "# gnomon 1\n# refused 0\n")
	wantsError(t, "the precision 0", api.Snapshot{}, api.ErrArg)
	wantsLines(t, "a line feed in a label", of(counter("c", 5, "x", "\n")), "# HELP c ", "# TYPE c counter", `c{x="\n"} 5`)
}

// TestModel: what the other tests hold Write against tells the chapter's example.
func TestModel(t *testing.T) {
	if got := model(example()); got != exampleText() {
		t.Error(got)
	}
	for p := 1; p <= api.MaxPrecision; p++ {
		for _, i := range []int{0, 1<<p - 1, 1 << p, 2<<p - 1, 2 << p, 2<<p + 1, bucket.Length(p) - 1} {
			if high, e := bucket.High(p, i); e != api.OK || modelHigh(p, i) != strconv.FormatInt(high, 10) {
				t.Errorf("precision %d, bucket %d: %s, %d", p, i, modelHigh(p, i), high)
			}
		}
	}
}

func TestHead(t *testing.T) {
	for p := 1; p <= api.MaxPrecision; p++ {
		for n, digits := range map[uint64]string{0: "0", 1: "1", 10: "10", 1 << 63: "9223372036854775808", mostOf64: "18446744073709551615"} {
			wants(t, p, api.Snapshot{Precision: p, Refused: n}, "# gnomon "+strconv.Itoa(p)+"\n# refused "+digits+"\n")
		}
	}
}

func TestCounters(t *testing.T) {
	for digits, n := range map[string]api.Int{
		"0":                    {},
		"1":                    {Lo: 1},
		"10":                   {Lo: 10},
		"9223372036854775807":  {Lo: mostOf63},
		"9223372036854775808":  {Lo: 1 << 63},
		"18446744073709551615": {Lo: mostOf64},
		"18446744073709551616": {Hi: 1},
		"18446744073709551617": {Hi: 1, Lo: 1},
		"170141183460469231731687303715884105727": greatest,
	} {
		c := but(counter("c", 0), func(v *api.Value) { v.Total = n })
		wantsLines(t, digits, of(c), "# HELP c ", "# TYPE c counter", "c "+digits)
	}
}

func TestHistograms(t *testing.T) {
	ahead := []string{"# HELP h ", "# TYPE h histogram"}
	for what, c := range map[string]struct {
		v     api.Value
		lines []string
	}{
		"no counts":        {histogram("h", 0), []string{`h_bucket{le="+Inf"} 0`, "h_sum 0", "h_count 0"}},
		"the first bucket": {histogram("h", 0, 0, 3), []string{`h_bucket{le="0"} 3`, `h_bucket{le="+Inf"} 3`, "h_sum 0", "h_count 3"}},
		"all up to one": {histogram("h", 32, 1, 2, 2, 3, 7, 1, 16, 1), []string{
			`h_bucket{le="1"} 2`, `h_bucket{le="2"} 5`, `h_bucket{le="7"} 6`, `h_bucket{le="17"} 7`, `h_bucket{le="+Inf"} 7`, "h_sum 32", "h_count 7"}},
		"the last bucket": {histogram("h", mostOf63, 487, 1), []string{
			`h_bucket{le="9223372036854775807"} 1`, `h_bucket{le="+Inf"} 1`, "h_sum 9223372036854775807", "h_count 1"}},
		"first and last one": {histogram("h", 1<<63-1<<59, 0, 9, 487, 1), []string{
			`h_bucket{le="0"} 9`, `h_bucket{le="9223372036854775807"} 10`, `h_bucket{le="+Inf"} 10`, "h_sum 8646911284551352320", "h_count 10"}},
		"the greatest N": {histogram("h", 1, 0, mostOf63-1, 1, 1), []string{
			`h_bucket{le="0"} 9223372036854775806`, `h_bucket{le="1"} 9223372036854775807`, `h_bucket{le="+Inf"} 9223372036854775807`, "h_sum 1", "h_count 9223372036854775807"}},
	} {
		wantsMay(t, what, of(c.v))
		wantsLines(t, what, of(c.v), slices.Concat(ahead, c.lines)...)
	}
	// (2^63 - 1) values that are all 2^63 - 1.
	most := histogram("h", 0, 487, mostOf63)
	square := new(big.Int).Mul(big.NewInt(mostOf63), big.NewInt(mostOf63))
	most.Total = narrow(square)
	wantsLines(t, "the greatest sum", of(most), "# HELP h ", "# TYPE h histogram",
		`h_bucket{le="9223372036854775807"} 9223372036854775807`, `h_bucket{le="+Inf"} 9223372036854775807`,
		"h_sum 85070591730234615847396907784232501249", "h_count 9223372036854775807")
}

// TestEveryBucket: of each precision a histogram with a value in many buckets, the first and the last ones among them.
func TestEveryBucket(t *testing.T) {
	for p := 1; p <= api.MaxPrecision; p++ {
		length := bucket.Length(p)
		v := histogram("h", 0)
		total := new(big.Int)
		for i := range length {
			if i%(length/488+1) > 0 && i > 40 && i < length-40 {
				continue
			}
			v.Counts = append(v.Counts, api.Count{Index: i, N: uint64(i%3 + 1)})
			v.N += uint64(i%3 + 1)
			low, _ := bucket.Low(p, i)
			total.Add(total, new(big.Int).Mul(big.NewInt(low), big.NewInt(int64(i%3+1))))
		}
		v.Total = narrow(total)
		s := api.Snapshot{Precision: p, Values: []api.Value{v}}
		wantsMay(t, p, s)
		wants(t, p, s, model(s))
		got, _ := expo.Write(s)
		if !bytes.Contains(got, []byte(`h_bucket{le="9223372036854775807"} `+strconv.FormatUint(v.N, 10)+"\n"+`h_bucket{le="+Inf"}`)) {
			t.Errorf("precision %d: the last bucket isn't told", p)
		}
	}
}

// TestPrecisionTellsTheBuckets: the same index is another bucket in each precision.
func TestPrecisionTellsTheBuckets(t *testing.T) {
	for p, high := range map[int]string{1: "31", 2: "11", 3: "9", 4: "9"} {
		i := 9
		low, _ := bucket.Low(p, i)
		s := api.Snapshot{Precision: p, Values: []api.Value{histogram("h", uint64(low), uint64(i), 1)}}
		wantsMay(t, p, s)
		wantsLines(t, p, s, "# HELP h ", "# TYPE h histogram", `h_bucket{le="`+high+`"} 1`, `h_bucket{le="+Inf"} 1`, "h_sum "+strconv.FormatInt(low, 10), "h_count 1")
	}
}

func TestSummariesOfNothing(t *testing.T) {
	wantsLines(t, "nothing", of(summary("s", 0, 0, 0, 0)), "# HELP s ", "# TYPE s summary", "s_sum 0", "s_count 0")
	wantsLines(t, "nothing, labels", of(labelled(summary("s", 0, 0, 0, 0), "x", "1")), "# HELP s ", "# TYPE s summary", `s_sum{x="1"} 0`, `s_count{x="1"} 0`)
	wantsLines(t, "zeros", of(summary("s", 1, 0, 0, 0)), "# HELP s ", "# TYPE s summary", `s{quantile="0"} 0`, `s{quantile="1"} 0`, "s_sum 0", "s_count 1")
}

// floats tells floats of every kind that may be, by their texts.
func floats() map[string]float64 {
	return map[string]float64{
		"0": 0, "-0": minus, "1": 1, "-1.5": -1.5, "0.1": 0.1, "100": 100, "123456.789": 123456.789,
		"0.000001": 0.000001, "1e-7": 0.0000001, "-1e-7": -0.0000001,
		"100000000000000000000": 1e20, "1e21": 1e21, "-1e21": -1e21, "1e23": 1e23,
		"5e-324": 5e-324, "-5e-324": -5e-324, "2.2250738585072014e-308": 0x1p-1022,
		"1.7976931348623157e308": mostFloat, "-1.7976931348623157e308": -mostFloat,
		"9007199254740992": 1 << 53, "9.7453140114e288": 0x1p960, "-9.7453140114e288": -0x1p960,
		"2147483648.0039062": 0x1p31 + 0x1p-8, "0.30000000000000004": 0.30000000000000004, "0.3333333333333333": 1.0 / 3,
	}
}

func TestSummaries(t *testing.T) {
	ahead := []string{"# HELP s ", "# TYPE s summary"}
	for digits, x := range floats() {
		wantsLines(t, digits, of(summary("s", 1, x, x, x)), append(ahead, `s{quantile="0"} `+digits, `s{quantile="1"} `+digits, "s_sum "+digits, "s_count 1")...)
		wantsLines(t, digits, of(summary("s", 2, x, -mostFloat, mostFloat)), append(ahead, `s{quantile="0"} -1.7976931348623157e308`, `s{quantile="1"} 1.7976931348623157e308`, "s_sum "+digits, "s_count 2")...)
		wantsLines(t, digits, of(summary("s", mostOf63, 2, x, mostFloat)), append(ahead, `s{quantile="0"} `+digits, `s{quantile="1"} 1.7976931348623157e308`, "s_sum 2", "s_count 9223372036854775807")...)
		wantsLines(t, digits, of(summary("s", 3, 2, -mostFloat, x)), append(ahead, `s{quantile="0"} -1.7976931348623157e308`, `s{quantile="1"} `+digits, "s_sum 2", "s_count 3")...)
	}
	wantsLines(t, "both zeros", of(summary("s", 2, minus, minus, 0)), append(ahead, `s{quantile="0"} -0`, `s{quantile="1"} 0`, "s_sum -0", "s_count 2")...)
}

func TestFamilies(t *testing.T) {
	wantsLines(t, "one series, with labels", of(counter("c", 1, "x", "1")), "# HELP c ", "# TYPE c counter", `c{x="1"} 1`)
	wantsLines(t, "several series of each kind", of(
		helped(counter("a", 1), "A"), helped(counter("a", 2, "x", ""), "A"), helped(counter("a", 3, "x", "", "y", "2"), "A"), helped(counter("a", 4, "y", "1"), "A"),
		helped(histogram("b", 3, 3, 1), "B"), helped(labelled(histogram("b", 0), "x", "1"), "B"),
		helped(summary("c", 1, 5, 5, 5), "C"), helped(labelled(summary("c", 0, 0, 0, 0), "x", "1"), "C"),
	),
		"# HELP a A", "# TYPE a counter", "a 1", `a{x=""} 2`, `a{x="",y="2"} 3`, `a{y="1"} 4`,
		"# HELP b B", "# TYPE b histogram", `b_bucket{le="3"} 1`, `b_bucket{le="+Inf"} 1`, "b_sum 3", "b_count 1",
		`b_bucket{x="1",le="+Inf"} 0`, `b_sum{x="1"} 0`, `b_count{x="1"} 0`,
		"# HELP c C", "# TYPE c summary", `c{quantile="0"} 5`, `c{quantile="1"} 5`, "c_sum 5", "c_count 1", `c_sum{x="1"} 0`, `c_count{x="1"} 0`)
	// Names of which one goes on from another, alike in kind and help: each is a family of its own.
	wantsLines(t, "names that go on", of(counter("A", 1), counter("a", 2), counter("a:", 3), counter("a_", 4), counter("aa", 5), counter("aa", 6, "x", "1"), counter("b", 7)),
		"# HELP A ", "# TYPE A counter", "A 1", "# HELP a ", "# TYPE a counter", "a 2", "# HELP a: ", "# TYPE a: counter", "a: 3", "# HELP a_ ", "# TYPE a_ counter", "a_ 4",
		"# HELP aa ", "# TYPE aa counter", "aa 5", `aa{x="1"} 6`, "# HELP b ", "# TYPE b counter", "b 7")
	name := strings.Repeat("n", api.MaxName)
	wantsLines(t, "the longest name", of(histogram(name, 0)), "# HELP "+name+" ", "# TYPE "+name+" histogram", name+`_bucket{le="+Inf"} 0`, name+"_sum 0", name+"_count 0")
}

func TestHelps(t *testing.T) {
	long := strings.Repeat("\n", api.MaxText)
	for help, want := range map[string]string{
		"":                  "",
		" ":                 " ",
		"  a  b  ":          "  a  b  ",
		"a\nb":              `a\nb`,
		"\n":                `\n`,
		`\`:                 `\\`,
		`\n`:                `\\n`,
		"\\\n":              `\\\n`,
		`"q"`:               `"q"`,
		"ü\u20ac\U0010ffff": "ü\u20ac\U0010ffff",
		"a\rb\tc\x00":       "a\rb\tc\x00",
		"# TYPE c x":        "# TYPE c x",
		long:                strings.Repeat(`\n`, api.MaxText),
	} {
		wantsLines(t, want, of(helped(counter("c", 1), help)), "# HELP c "+want, "# TYPE c counter", "c 1")
		wantsLines(t, want, of(helped(histogram("h", 0), help)), "# HELP h "+want, "# TYPE h histogram", `h_bucket{le="+Inf"} 0`, "h_sum 0", "h_count 0")
		wantsLines(t, want, of(helped(summary("s", 0, 0, 0, 0), help), helped(labelled(summary("s", 0, 0, 0, 0), "x", "1"), help)),
			"# HELP s "+want, "# TYPE s summary", "s_sum 0", "s_count 0", `s_sum{x="1"} 0`, `s_count{x="1"} 0`)
	}
}

func TestLabels(t *testing.T) {
	for value, want := range map[string]string{
		"":                               "",
		" ":                              " ",
		"\n":                             `\n`,
		`\`:                              `\\`,
		`"`:                              `\"`,
		`\n`:                             `\\n`,
		"\\\"\n\"\\":                     `\\\"\n\"\\`,
		`",le="5`:                        `\",le=\"5`,
		"} 5":                            "} 5",
		"ü\u20ac\ufffd":                  "ü\u20ac\ufffd",
		"a\rb\tc\x00":                    "a\rb\tc\x00",
		strings.Repeat(`"`, api.MaxText): strings.Repeat(`\"`, api.MaxText),
	} {
		l := `x="` + want + `"`
		wantsLines(t, want, of(labelled(counter("c", 1), "x", value)), "# HELP c ", "# TYPE c counter", "c{"+l+"} 1")
		wantsLines(t, want, of(labelled(histogram("h", 5, 5, 1), "x", value)), "# HELP h ", "# TYPE h histogram",
			"h_bucket{"+l+`,le="5"} 1`, "h_bucket{"+l+`,le="+Inf"} 1`, "h_sum{"+l+"} 5", "h_count{"+l+"} 1")
		wantsLines(t, want, of(labelled(summary("s", 1, 2, 3, 4), "x", value)), "# HELP s ", "# TYPE s summary",
			"s{"+l+`,quantile="0"} 3`, "s{"+l+`,quantile="1"} 4`, "s_sum{"+l+"} 2", "s_count{"+l+"} 1")
	}
}

// TestOneLabelMoreStandsLast: also where its name would stand ahead of others, and where there are as many as may be.
func TestOneLabelMoreStandsLast(t *testing.T) {
	for _, names := range [][]string{{"a"}, {"z"}, {"a", "z"}, {"_", "le_"}, {"quantile_", "r"}, strings.Split("abcdefghijklmnop", "")} {
		h, s := histogram("h", 5, 5, 1), summary("s", 1, 2, 3, 4)
		var all []string
		for _, name := range names {
			h.Desc.Labels = append(h.Desc.Labels, api.Label{Name: name, Value: "v"})
			all = append(all, name+`="v"`)
		}
		s.Desc.Labels = h.Desc.Labels
		l := strings.Join(all, ",")
		wantsLines(t, l, of(h, s),
			"# HELP h ", "# TYPE h histogram", "h_bucket{"+l+`,le="5"} 1`, "h_bucket{"+l+`,le="+Inf"} 1`, "h_sum{"+l+"} 5", "h_count{"+l+"} 1",
			"# HELP s ", "# TYPE s summary", "s{"+l+`,quantile="0"} 3`, "s{"+l+`,quantile="1"} 4`, "s_sum{"+l+"} 2", "s_count{"+l+"} 1")
	}
}

// P16.1: the errors.

// tooLong tells values, all behind the name h, whose text has more than MaxPage bytes.
func tooLong() []api.Value {
	var out []api.Value
	for i := range 256 {
		v := counter("h"+strconv.Itoa(1000+i), 1)
		for j := range api.MaxLabels {
			v.Desc.Labels = append(v.Desc.Labels, api.Label{Name: string(rune('a' + j)), Value: strings.Repeat("v", api.MaxText)})
		}
		out = append(out, v)
	}
	return out
}

// faults tells snapshots that may not be, of few values, with their errors.
func faults() []struct {
	s api.Snapshot
	e api.Errno
} {
	type fault = struct {
		s api.Snapshot
		e api.Errno
	}
	kind := func(n int) api.Value { return but(counter("c", 1), func(v *api.Value) { v.Desc.Kind = n }) }
	out := []fault{
		{of(kind(api.None)), api.ErrKind}, {of(kind(4)), api.ErrKind}, {of(kind(-1)), api.ErrKind}, {of(kind(math.MinInt)), api.ErrKind},
		{of(counter("", 1)), api.ErrName}, {of(counter("c_sum", 1)), api.ErrName}, {of(counter("h_bucket", 1)), api.ErrName}, {of(counter("1", 1)), api.ErrName},
		{of(counter("c\n", 1)), api.ErrName}, {of(counter(strings.Repeat("n", 65), 1)), api.ErrName},
		{of(helped(counter("c", 1), strings.Repeat("h", 1025))), api.ErrBytes}, {of(helped(counter("c", 1), "\xff")), api.ErrUtf},
		{of(counter("c", 1, "le", "5")), api.ErrName}, {of(counter("c", 1, "quantile", "1")), api.ErrName}, {of(counter("c", 1, "", "")), api.ErrName},
		{of(counter("c", 1, "x", strings.Repeat("v", 1025))), api.ErrBytes}, {of(counter("c", 1, "x", "\xed\xa0\x80")), api.ErrUtf},
		{of(counter("c", 1, "x", "1", "x", "2")), api.ErrTwice}, {of(counter("c", 1, "y", "1", "x", "2")), api.ErrOrder},
		{of(but(counter("c", 1), func(v *api.Value) { v.Desc.Labels = make([]api.Label, 17) })), api.ErrMany},
		{of(but(counter("c", 1), func(v *api.Value) { v.Total.Hi = -1 })), api.ErrRange}, {of(but(counter("c", 1), func(v *api.Value) { v.N = 1 })), api.ErrRange},
		{of(but(counter("c", 1), func(v *api.Value) { v.Sum = minus })), api.ErrRange}, {of(but(counter("c", 1), func(v *api.Value) { v.Counts = make([]api.Count, 1) })), api.ErrRange},
		{of(histogram("h", 0, 488, 1)), api.ErrRange}, {of(histogram("h", 3, 2, 1, 1, 1)), api.ErrRange}, {of(histogram("h", 1, 1, 0)), api.ErrRange},
		{of(histogram("h", 2, 1, 1)), api.ErrRange}, {of(histogram("h", 0, 0, 1<<63)), api.ErrRange}, {of(but(histogram("h", 1, 1, 1), func(v *api.Value) { v.N = 2 })), api.ErrRange},
		{of(but(histogram("h", 1, 1, 1), func(v *api.Value) { v.Counts[0].Index = -1 })), api.ErrRange},
		{of(summary("s", 1<<63, 1, 1, 1)), api.ErrRange}, {of(summary("s", 1, math.NaN(), 1, 1)), api.ErrRange}, {of(summary("s", 1, 1, math.Inf(-1), 1)), api.ErrRange},
		{of(summary("s", 1, 1, 1, math.Inf(1))), api.ErrRange}, {of(summary("s", 1, 1, 0, minus)), api.ErrRange}, {of(summary("s", 0, 1, 0, 0)), api.ErrRange}, {of(summary("s", 0, minus, 0, 0)), api.ErrRange},
		{of(counter("c", 1), counter("c", 1)), api.ErrTwice}, {of(counter("c", 1), counter("c", 2)), api.ErrTwice},
		{of(counter("c", 1), counter("b", 1)), api.ErrOrder}, {of(counter("c", 1, "x", "1"), counter("c", 1)), api.ErrOrder},
		{of(counter("c", 1), helped(counter("c", 1, "x", "1"), "h")), api.ErrUnlike}, {of(counter("c", 1), labelled(summary("c", 0, 0, 0, 0), "x", "1")), api.ErrUnlike},
	}
	for _, p := range []int{0, -1, api.MaxPrecision + 1, 1<<8 + 3, 1<<32 + 3, math.MaxInt, math.MinInt} {
		out = append(out, fault{api.Snapshot{Precision: p}, api.ErrArg}, fault{api.Snapshot{Precision: p, Values: []api.Value{counter("c", 1)}}, api.ErrArg})
	}
	return out
}

func TestErrorsOfCheck(t *testing.T) {
	for i, f := range faults() {
		wantsError(t, i, f.s, f.e)
		// Behind others it is as wrong, and nothing of these is told.
		wantsError(t, i, api.Snapshot{Precision: f.s.Precision, Refused: 3, Values: slices.Concat([]api.Value{counter("a", 1), summary("b", 1, 1, 1, 1)}, f.s.Values)}, f.e)
	}
	var many []api.Value
	for i := range 257 {
		many = append(many, counter("n"+strconv.Itoa(1000+i), 1))
	}
	wantsError(t, "257 values", of(many...), api.ErrMany)
	wants(t, "256 values", of(many[:256]...), model(of(many[:256]...)))
	wantsError(t, "257 values, the first one wrong", of(slices.Concat([]api.Value{counter("", 1)}, many[:256])...), api.ErrMany)
	wantsError(t, "257 values, the precision 15", api.Snapshot{Precision: 15, Values: many}, api.ErrArg)
}

// TestWhichErrorIsFirst: one of Check is told ahead of ErrBytes, wherever it is; of two of Check the one of the first value.
func TestWhichErrorIsFirst(t *testing.T) {
	long := tooLong()
	wantsError(t, "too long", of(long...), api.ErrBytes)
	wantsError(t, "too long, the precision 0", api.Snapshot{Values: long}, api.ErrArg)
	wantsError(t, "too long, and too many", of(append(slices.Clone(long), counter("z", 1))...), api.ErrMany)
	for i, f := range faults() {
		room := len(long) - len(f.s.Values)
		wantsError(t, i, api.Snapshot{Precision: f.s.Precision, Values: slices.Concat(f.s.Values, long[len(f.s.Values):])}, f.e)
		if len(f.s.Values) != 1 || f.e == api.ErrName {
			continue
		}
		last := f.s.Values[0]
		last.Desc.Name = "z"
		wantsError(t, i, api.Snapshot{Precision: f.s.Precision, Values: append(slices.Clone(long[:room]), last)}, f.e)
	}
	wantsError(t, "the name ahead of the total", of(but(counter("c_sum", 1), func(v *api.Value) { v.Total.Hi = -1 })), api.ErrName)
	wantsError(t, "the first value ahead of the second", of(but(counter("c", 1), func(v *api.Value) { v.Total.Hi = -1 }), counter("", 1)), api.ErrRange)
	wantsError(t, "the kind ahead of the order", of(counter("c", 1), but(counter("b", 1), func(v *api.Value) { v.Desc.Kind = 0 })), api.ErrKind)
}

// padded tells values of the name a, ahead of some others, such that the text of all has just so many bytes.
func padded(t *testing.T, bytes int, l ...api.Value) api.Snapshot {
	t.Helper()
	var pad []api.Value
	next := func(n int, value string) api.Value {
		v := counter("a", 1, "n", strconv.Itoa(1000+len(pad)))
		for i := range n {
			v.Desc.Labels = append(v.Desc.Labels, api.Label{Name: "n" + string(rune('a'+i)), Value: value})
		}
		return v
	}
	all := func() api.Snapshot {
		return api.Snapshot{Precision: 3, Refused: 1, Values: slices.Concat(pad, l)}
	}
	pad = append(pad, next(0, ""))
	left := bytes - len(model(all()))
	fill := func(n int, value string) {
		for cost := len(modelValue(3, next(n, value))[0]) + 1; cost <= left; left -= cost {
			pad = append(pad, next(n, value))
		}
	}
	fill(15, strings.Repeat("\n", api.MaxText))
	fill(1, strings.Repeat("v", 1000))
	// What is left is less than a line of these, and a help takes it to the byte.
	for i := range pad {
		pad[i].Desc.Help = strings.Repeat("h", left)
	}
	wantsMay(t, "padded", all())
	if n := len(model(all())); n != bytes {
		t.Fatalf("the test's own text has %d bytes, not %d", n, bytes)
	}
	return all()
}

// lasts tells values that may stand last in a text, one or a few at a time.
func lasts() map[string][]api.Value {
	return map[string][]api.Value{
		"nothing more":           nil,
		"a counter":              {counter("c", 5)},
		"a family":               {counter("c", 5), counter("c", 6, "x", "1")},
		"a histogram":            {histogram("h", 40, 5, 1, 24, 1)},
		"a histogram of nothing": {histogram("h", 0)},
		"a summary":              {summary("s", 2, 1e21, 0.5, 1e21)},
		"a summary of nothing":   {summary("s", 0, 0, 0, 0)},
		"an escaped label":       {counter("c", 5, "x", strings.Repeat("\n", 100))},
		"an escaped help":        {helped(counter("c", 5), strings.Repeat("\\", 100))},
	}
}

func TestJustMaxPage(t *testing.T) {
	for what, l := range lasts() {
		for _, less := range []int{0, 1} {
			s := padded(t, api.MaxPage-less, l...)
			wants(t, what, s, model(s))
		}
		for _, more := range []int{1, 2, 20, 90} {
			wantsError(t, what, padded(t, api.MaxPage+more, l...), api.ErrBytes)
		}
	}
}

// firstBuckets tells a histogram with one value in each of the first n buckets of the greatest precision.
func firstBuckets(n int) api.Value {
	v := api.Value{Desc: api.Desc{Kind: api.Histogram, Name: "h"}, N: uint64(n)}
	total := new(big.Int)
	for i := range n {
		v.Counts = append(v.Counts, api.Count{Index: i, N: 1})
		low, _ := bucket.Low(api.MaxPrecision, i)
		total.Add(total, big.NewInt(low))
	}
	v.Total = narrow(total)
	return v
}

// TestManyBuckets: the greatest histogram whose text is not too long, and one with one bucket more.
func TestManyBuckets(t *testing.T) {
	of := func(n int) api.Snapshot {
		return api.Snapshot{Precision: api.MaxPrecision, Values: []api.Value{firstBuckets(n)}}
	}
	n := sort.Search(api.MaxPage/len("h_bucket{le=\"0\"} 1\n"), func(n int) bool { return len(model(of(n+1))) > api.MaxPage })
	wantsMay(t, n, of(n+1))
	wants(t, n, of(n), model(of(n)))
	wantsError(t, n+1, of(n+1), api.ErrBytes)
}

// TestFarTooLong: a text that there would hardly be room for is refused as well, and soon.
func TestFarTooLong(t *testing.T) {
	v := firstBuckets(bucket.Length(api.MaxPrecision))
	v.Desc.Labels = tooLong()[0].Desc.Labels
	s := api.Snapshot{Precision: api.MaxPrecision}
	for i := range 8 {
		v.Desc.Name = "h" + strconv.Itoa(i)
		s.Values = append(s.Values, v)
	}
	wantsMay(t, "far too long", s)
	wantsError(t, "far too long", s, api.ErrBytes)
}

// P16.1: many snapshots, held against the model.

func one[T any](r *rand.Rand, l ...T) T { return l[r.Intn(len(l))] }

// someFloat tells a finite float that often lies at an edge.
func someFloat(r *rand.Rand) float64 {
	x := math.Float64frombits(r.Uint64())
	if math.IsNaN(x) || math.IsInf(x, 0) {
		x = 1
	}
	return one(r, 0, minus, 1, -1, 0.1, 1e20, 1e21, -1e21, 1e-6, 1e-7, mostFloat, -mostFloat, 5e-324, x, r.NormFloat64(), float64(r.Int63()))
}

// someText tells a text with many letters that are escaped.
func someText(r *rand.Rand) string {
	var out strings.Builder
	for range r.Intn(7) {
		out.WriteString(one(r, "\\", "\"", "\n", "n", " ", "}", ",", "=", "ü", "\U0001f600", "\r", "#", "a", "1"))
	}
	return out.String()
}

// someLabels tells labels that may be, in order.
func someLabels(r *rand.Rand) []api.Label {
	var out []api.Label
	for _, name := range []string{"A", "_", "a", "k", "le_", "m", "x", "z9"} {
		if r.Intn(4) == 0 {
			out = append(out, api.Label{Name: name, Value: someText(r)})
		}
	}
	return out
}

// fill gives a value what it may hold.
func fill(r *rand.Rand, p int, v api.Value) api.Value {
	switch v.Desc.Kind {
	case api.Counter:
		v.Total = one(r, api.Int{}, api.Int{Lo: 1}, api.Int{Lo: mostOf64}, api.Int{Hi: r.Int63(), Lo: r.Uint64()}, greatest, api.Int{Lo: r.Uint64() >> r.Intn(64)})
	case api.Histogram:
		return fillCounts(r, p, v)
	case api.Summary:
		if r.Intn(4) == 0 {
			break
		}
		v.N = one(r, 1, 2, mostOf63, 1+uint64(r.Int63())>>r.Intn(63))
		v.Sum, v.Min, v.Max = someFloat(r), someFloat(r), someFloat(r)
		if real.Compare(v.Min, v.Max) > 0 {
			v.Min, v.Max = v.Max, v.Min
		}
	}
	return v
}

// fillCounts gives a histogram counts, and a total between the least and the greatest one that they may come to.
func fillCounts(r *rand.Rand, p int, v api.Value) api.Value {
	total := new(big.Int)
	for range r.Intn(6) {
		i := one(r, 0, r.Intn(20), r.Intn(bucket.Length(p)), bucket.Length(p)-1)
		n := one(r, 1, 2, 1+uint64(r.Int63())>>r.Intn(63))
		if slices.ContainsFunc(v.Counts, func(c api.Count) bool { return c.Index == i }) || v.N+n > mostOf63 {
			continue
		}
		v.Counts = append(v.Counts, api.Count{Index: i, N: n})
		v.N += n
		low, _ := bucket.Low(p, i)
		high, _ := bucket.High(p, i)
		between := one(r, low, high, low+r.Int63n(high-low+1))
		total.Add(total, new(big.Int).Mul(new(big.Int).SetUint64(n), big.NewInt(between)))
	}
	slices.SortFunc(v.Counts, func(x, y api.Count) int { return cmp.Compare(x.Index, y.Index) })
	v.Total = narrow(total)
	return v
}

// some tells a snapshot that may be, of at most so many values.
func some(r *rand.Rand, most int) api.Snapshot {
	s := api.Snapshot{Precision: 1 + r.Intn(api.MaxPrecision), Refused: one(r, 0, 1, mostOf64, r.Uint64()>>r.Intn(64))}
	name, series := "a", map[string]bool{}
	d := api.Desc{Kind: 1 + r.Intn(3), Name: name, Help: someText(r)}
	for range r.Intn(most + 1) {
		if r.Intn(2) == 0 {
			name = name + one(r, "a", "_", ":", "0")
			if len(name) > 20 {
				name = string(rune(name[0] + 1))
			}
			d = api.Desc{Kind: 1 + r.Intn(3), Name: name, Help: someText(r)}
		}
		d.Labels = someLabels(r)
		if text := modelSeries(d.Name, d.Labels...); !series[text] {
			series[text] = true
			s.Values = append(s.Values, fill(r, s.Precision, api.Value{Desc: d}))
		}
	}
	slices.SortFunc(s.Values, func(a, b api.Value) int { return compareSeries(a.Desc, b.Desc) })
	return s
}

// compareSeries tells how two series stand.
func compareSeries(a, b api.Desc) int {
	texts := func(d api.Desc) []string {
		out := []string{d.Name}
		for _, l := range d.Labels {
			out = append(out, l.Name, l.Value)
		}
		return out
	}
	return slices.Compare(texts(a), texts(b))
}

func TestAgainstTheModel(t *testing.T) {
	r := rand.New(rand.NewSource(161))
	for i := range 3000 {
		s := some(r, one(r, 1, 5, 20))
		wantsMay(t, i, s)
		wants(t, i, s, model(s))
	}
	for i := range 60 {
		s := some(r, api.MaxInstruments)
		wantsMay(t, i, s)
		wants(t, i, s, model(s))
	}
}

// P16.2: what follows.

// wantsForm holds the lines of a text against the families of its snapshot.
func wantsForm(t *testing.T, s api.Snapshot) {
	t.Helper()
	got, e := expo.Write(s)
	if e != api.OK || !bytes.HasSuffix(got, []byte("\n")) {
		t.Fatalf("%v: %s", e, cut(string(got)))
	}
	var names []string
	for _, v := range s.Values {
		names = append(names, v.Desc.Name)
	}
	family := ""
	for _, line := range strings.Split(string(got[:len(got)-1]), "\n") {
		if rest, is := strings.CutPrefix(line, "# HELP "); is {
			family, _, _ = strings.Cut(rest, " ")
			if !slices.Contains(names, family) {
				t.Errorf("a family that is none: %q", line)
			}
		}
		// The name that follows ends there, or goes on as the lines of its family do.
		rest, is := strings.CutPrefix(line, family)
		own := is && family != "" && slices.ContainsFunc([]string{" ", "{", "_bucket{", "_sum ", "_sum{", "_count ", "_count{"}, func(s string) bool { return strings.HasPrefix(rest, s) })
		if line == "" || !strings.HasPrefix(line, "# ") && !own {
			t.Errorf("a line of the family %q: %q", family, line)
		}
	}
}

func TestFormOfLines(t *testing.T) {
	wantsForm(t, example())
	wantsForm(t, api.Snapshot{Precision: 1})
	r := rand.New(rand.NewSource(162))
	for range 1500 {
		wantsForm(t, some(r, one(r, 1, 20, 60)))
	}
}

// base tells a snapshot that each of alone changes in one thing.
func base() api.Snapshot {
	return api.Snapshot{Precision: 3, Refused: 2, Values: []api.Value{
		helped(counter("a", 7), "all"),
		helped(counter("a", 7, "x", "1", "y", "2"), "all"),
		labelled(histogram("h", 40, 5, 1, 24, 1), "k", "v"),
		histogram("i", 16, 16, 1),
		summary("s", 2, 3, 1, 2),
		summary("t", 0, 0, 0, 0),
	}}
}

// alone tells changes of one thing each.
func alone() []func(s *api.Snapshot) {
	each := func(i int, change func(v *api.Value)) func(s *api.Snapshot) {
		return func(s *api.Snapshot) { change(&s.Values[i]) }
	}
	both := func(change func(v *api.Value)) func(s *api.Snapshot) {
		return func(s *api.Snapshot) { change(&s.Values[0]); change(&s.Values[1]) }
	}
	return []func(s *api.Snapshot){
		func(s *api.Snapshot) { s.Refused++ },
		func(s *api.Snapshot) { s.Refused += 1 << 32 },
		func(s *api.Snapshot) { s.Refused += 1 << 63 },
		func(s *api.Snapshot) { s.Values = s.Values[1:] },
		func(s *api.Snapshot) { s.Values = s.Values[:5] },
		func(s *api.Snapshot) { s.Values = slices.Delete(s.Values, 1, 2) },
		func(s *api.Snapshot) { s.Values = append(s.Values, counter("z", 0)) },
		func(s *api.Snapshot) { s.Values = append(s.Values, counter("z", 1)) },
		func(s *api.Snapshot) { s.Values = append(s.Values, histogram("z", 0)) },
		func(s *api.Snapshot) { s.Values = append(s.Values, summary("z", 0, 0, 0, 0)) },
		both(func(v *api.Value) { v.Desc.Help = "" }),
		both(func(v *api.Value) { v.Desc.Help = "all " }),
		both(func(v *api.Value) { v.Desc.Help = "al\nl" }),
		both(func(v *api.Value) { v.Desc.Help = "al\\nl" }),
		both(func(v *api.Value) { v.Desc.Name = "b" }),
		each(0, func(v *api.Value) { v.Total.Lo++ }),
		each(0, func(v *api.Value) { v.Total.Hi++ }),
		each(1, func(v *api.Value) { v.Total.Lo++ }),
		each(1, func(v *api.Value) { v.Desc.Labels[1].Value = "3" }),
		each(1, func(v *api.Value) { v.Desc.Labels[1].Value = "\n" }),
		each(1, func(v *api.Value) { v.Desc.Labels[1].Value = `\n` }),
		each(1, func(v *api.Value) { v.Desc.Labels[1].Value = `",z="2` }),
		each(1, func(v *api.Value) { v.Desc.Labels = append(v.Desc.Labels, api.Label{Name: "z", Value: "2"}) }),
		each(1, func(v *api.Value) { v.Desc.Labels[1].Name = "z" }),
		each(1, func(v *api.Value) { v.Desc.Labels = v.Desc.Labels[:1] }),
		each(2, func(v *api.Value) { v.Total.Lo-- }),
		each(2, func(v *api.Value) { v.Desc.Labels = nil }),
		each(2, func(v *api.Value) { v.Desc.Labels[0].Value = `v",le="5` }),
		each(2, func(v *api.Value) { v.Counts = []api.Count{{Index: 5, N: 1}, {Index: 25, N: 1}}; v.Total.Lo = 41 }),
		each(2, func(v *api.Value) { v.Counts = []api.Count{{Index: 6, N: 1}, {Index: 24, N: 1}} }),
		each(2, func(v *api.Value) { v.Counts = []api.Count{{Index: 18, N: 2}} }),
		each(2, func(v *api.Value) {
			v.Counts = []api.Count{{Index: 0, N: 1}, {Index: 5, N: 1}, {Index: 24, N: 1}}
			v.N = 3
		}),
		each(2, func(v *api.Value) {
			v.Counts = []api.Count{{Index: 5, N: 2}, {Index: 24, N: 1}}
			v.N = 3
			v.Total.Lo = 45
		}),
		each(2, func(v *api.Value) {
			v.Counts = []api.Count{{Index: 5, N: 1}, {Index: 24, N: 2}}
			v.N = 3
			v.Total.Lo = 70
		}),
		each(2, func(v *api.Value) { *v = labelled(histogram("h", 0), "k", "v") }),
		each(2, func(v *api.Value) { *v = labelled(summary("h", 0, 0, 0, 0), "k", "v") }),
		each(3, func(v *api.Value) { v.Total.Lo++ }),
		each(3, func(v *api.Value) { v.Desc.Name = "j" }),
		each(4, func(v *api.Value) { v.N++ }),
		each(4, func(v *api.Value) { v.N += 1 << 62 }),
		each(4, func(v *api.Value) { v.Sum = math.Nextafter(3, 4) }),
		each(4, func(v *api.Value) { v.Sum = -3 }),
		each(4, func(v *api.Value) { v.Sum = 0 }),
		each(4, func(v *api.Value) { v.Sum = minus }),
		each(4, func(v *api.Value) { v.Min = math.Nextafter(1, 0) }),
		each(4, func(v *api.Value) { v.Min = 0 }),
		each(4, func(v *api.Value) { v.Min = minus }),
		each(4, func(v *api.Value) { v.Max = math.Nextafter(2, 3) }),
		each(4, func(v *api.Value) { v.Max = 1 }),
		each(4, func(v *api.Value) { v.Min, v.Max = 0, 0 }),
		each(4, func(v *api.Value) { v.Min, v.Max = minus, 0 }),
		each(4, func(v *api.Value) { v.Min, v.Max = minus, minus }),
		each(5, func(v *api.Value) { v.N = 1 }),
		each(5, func(v *api.Value) { v.N, v.Sum = 1, minus }),
		each(5, func(v *api.Value) { v.Desc.Kind = api.Counter }),
		each(5, func(v *api.Value) { v.Desc.Kind = api.Histogram }),
	}
}

func TestUnlikeSnapshotsHaveUnlikeTexts(t *testing.T) {
	list := []api.Snapshot{base(), {Precision: 3}, {Precision: 4}, {Precision: 13}, {Precision: 13, Refused: 3}, {Precision: 1, Refused: 33}}
	for _, change := range alone() {
		s := base()
		change(&s)
		list = append(list, s)
	}
	var texts []string
	for i, s := range list {
		wantsMay(t, i, s)
		got, e := expo.Write(s)
		if e != api.OK {
			t.Fatal(i, e)
		}
		for j, other := range texts {
			if same := snap.Same(s, list[j]); same || other == string(got) {
				t.Errorf("%d and %d: the same: %v; the texts: %s, %s", i, j, same, got, other)
			}
		}
		texts = append(texts, string(got))
	}
}

// TestPrecisionIsTold: snapshots that differ in the precision alone, also where each has its values in buckets of one value.
func TestPrecisionIsTold(t *testing.T) {
	seen := map[string]int{}
	for p := 1; p <= api.MaxPrecision; p++ {
		s := api.Snapshot{Precision: p, Values: []api.Value{histogram("h", 1, 0, 1, 1, 1)}}
		wantsMay(t, p, s)
		got, _ := expo.Write(s)
		if other, is := seen[string(got)]; is {
			t.Errorf("the precisions %d and %d have one text", p, other)
		}
		seen[string(got)] = p
	}
}

// TestTextsAreThoseOfOneSnapshot: of many snapshots no two that are unlike have one text, and the same ones have.
func TestTextsAreThoseOfOneSnapshot(t *testing.T) {
	seen := map[string]api.Snapshot{}
	again := 0
	for seed := range int64(4000) {
		s := some(rand.New(rand.NewSource(seed%3000)), 2)
		got, e := expo.Write(s)
		if e != api.OK {
			t.Fatal(e)
		}
		other, is := seen[string(got)]
		if is && !snap.Same(s, other) {
			t.Errorf("one text of %v and %v", s, other)
		}
		if is {
			again++
		}
		seen[string(got)] = s
	}
	if again < 1000 {
		t.Errorf("only %d texts were told again", again)
	}
}

// TestEmptyLists: a list without elements is told as one that is nil.
func TestEmptyLists(t *testing.T) {
	s := of(counter("a", 1), histogram("h", 0), summary("s", 0, 0, 0, 0))
	want := model(s)
	wants(t, "nil", s, want)
	for i := range s.Values {
		s.Values[i].Desc.Labels, s.Values[i].Counts = []api.Label{}, []api.Count{}
	}
	wants(t, "empty", s, want)
}

// P16.3: R3.

// spacious tells a list as a piece of a longer one, whose other elements are odd.
func spacious[T any](l []T, odd T) []T {
	all := append(append([]T(nil), l...), odd, odd, odd)
	return all[:len(l)]
}

// roomy tells a snapshot of which every list has spare room.
func roomy(s api.Snapshot) api.Snapshot {
	s.Values = spacious(s.Values, api.Value{Desc: api.Desc{Name: "odd"}, N: 77})
	for i := range s.Values {
		v := &s.Values[i]
		v.Desc.Labels = spacious(v.Desc.Labels, api.Label{Name: "odd", Value: "odd"})
		v.Counts = spacious(v.Counts, api.Count{Index: 77, N: 77})
	}
	return s
}

// deep tells a snapshot with all spare room, as lists of its own.
func deep(s api.Snapshot) api.Snapshot {
	s.Values = slices.Clone(s.Values[:cap(s.Values)])
	for i := range s.Values {
		v := &s.Values[i]
		v.Desc.Labels = slices.Clone(v.Desc.Labels[:cap(v.Desc.Labels)])
		v.Counts = slices.Clone(v.Counts[:cap(v.Counts)])
	}
	return s
}

// spoil writes over a text, its spare room too.
func spoil(b []byte) {
	b = b[:cap(b)]
	for i := range b {
		b[i] = 'X'
	}
}

func TestSnapshotStays(t *testing.T) {
	r := rand.New(rand.NewSource(163))
	for i := range 2000 {
		s := roomy(some(r, one(r, 1, 5, 20)))
		if r.Intn(5) == 0 && len(s.Values) > 0 {
			s.Values[r.Intn(len(s.Values))].N ^= 1 << 63
		}
		was := deep(s)
		got, _ := expo.Write(s)
		spoil(got)
		if !snap.Same(deep(s), was) {
			t.Fatalf("%d: changed: %v, was %v", i, deep(s), was)
		}
	}
	long := roomy(of(tooLong()...))
	was := deep(long)
	wantsError(t, "too long", long, api.ErrBytes)
	if !snap.Same(deep(long), was) {
		t.Error("changed, where it is too long")
	}
}

func TestAnswerIsItsOwners(t *testing.T) {
	r := rand.New(rand.NewSource(164))
	for i := range 1000 {
		s := some(r, one(r, 0, 1, 20))
		want := model(s)
		first, _ := expo.Write(s)
		second, _ := expo.Write(s)
		spoil(first)
		if string(second) != want {
			t.Fatalf("%d: two answers share memory", i)
		}
		wants(t, i, s, want)
		for j := range s.Values {
			s.Values[j] = api.Value{}
		}
		if string(second) != want {
			t.Fatalf("%d: an answer shares memory with the snapshot", i)
		}
	}
}

// TestManyAtOneTime: nothing is kept from call to call, so goroutines that write one snapshot don't disturb one another.
func TestManyAtOneTime(t *testing.T) {
	s := roomy(example())
	texts := make([][]byte, 8)
	var all sync.WaitGroup
	for i := range texts {
		all.Go(func() {
			for range 200 {
				texts[i], _ = expo.Write(s)
			}
		})
	}
	all.Wait()
	for i, got := range texts {
		if string(got) != exampleText() {
			t.Errorf("%d: %s", i, got)
		}
	}
}
