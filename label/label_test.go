package label_test

import (
	"cmp"
	"math"
	"math/rand"
	"regexp"
	"slices"
	"strings"
	"testing"
	"unicode/utf8"
	"unsafe"

	"gnomon/api"
	"gnomon/label"
)

// labels tells a list of labels, name and value by turns.
func labels(l ...string) []api.Label {
	var out []api.Label
	for i := 0; i < len(l); i += 2 {
		out = append(out, api.Label{Name: l[i], Value: l[i+1]})
	}
	return out
}

// counter tells the description of a counter, without a help.
func counter(name string, l ...string) api.Desc {
	return api.Desc{Kind: api.Counter, Name: name, Labels: labels(l...)}
}

// manyLabels tells n labels that stand in order.
func manyLabels(n int) []api.Label {
	var out []api.Label
	for i := range n {
		out = append(out, api.Label{Name: "m" + string(rune('a'+i)), Value: "v"})
	}
	return out
}

// bytesBeside tells texts of just so many bytes, right UTF-8: letters of one byte, and of more of them.
func bytesBeside(n int) []string {
	out := []string{strings.Repeat("x", n)}
	for _, letter := range []string{"é", "€", "\U0001f600", "\\", "\"", "\n"} {
		out = append(out, strings.Repeat(letter, n/len(letter))+strings.Repeat("x", n%len(letter)))
	}
	return out
}

// rightTexts tells right UTF-8: the least and the greatest letter of each length, those beside the gap, the one that stands for wrong bytes.
func rightTexts() []string {
	return []string{
		"", "\x00", "\x7f", "\u0080", "\u07ff", "\u0800", "\ud7ff", "\ue000", "\ufffd", "\ufffe", "\uffff", "\U00010000", "\U0010ffff",
		"a\ufffdb", "\ufffd\ufffd", "\ufeff", "\r", "\t", "\u2028", "a\x00b",
	}
}

// wrongTexts tells what is not right UTF-8.
func wrongTexts() []string {
	return []string{
		"\xff", "\xfe", "\x80", "\xbf", // no letter begins with them
		"\xc0\x80", "\xc1\xbf", "\xe0\x80\x80", "\xe0\x9f\xbf", "\xf0\x80\x80\x80", "\xf0\x8f\xbf\xbf", // not the shortest way
		"\xed\xa0\x80", "\xed\xad\xbf", "\xed\xae\x80", "\xed\xbf\xbf", "\xed\xa0\xbd\xed\xb8\x80", // d800 to dfff
		"\xf4\x90\x80\x80", "\xf5\x80\x80\x80", "\xf8\x88\x80\x80\x80", // above 10ffff
		"\xc3", "\xe2\x82", "\xf0\x9f\x98", "\xef\xbf", // ends too early
		"\xc3a", "\xe2\x82a", "\xef\xbfa", "\xe2\x28\xa1", // goes on wrongly
		"\ufffd\xff", "\xff\ufffd", "\xef\xbf\xbd\xbd", "\xbd\ufffd", // wrong beside the letter that stands for wrong bytes
	}
}

// What the chapter says, in other means: patterns, and the library's own look at UTF-8.

var (
	nameForm      = regexp.MustCompile(`^[a-zA-Z_:][a-zA-Z0-9_:]{0,63}$`)
	lineForm      = regexp.MustCompile(`(_bucket|_sum|_count)$`)
	labelNameForm = regexp.MustCompile(`^[a-zA-Z_][a-zA-Z0-9_]{0,63}$`)
	takenForm     = regexp.MustCompile(`^(le$|quantile$|__)`)
	nameRow       = regexp.MustCompile(`^[a-zA-Z0-9_:]*`)
	labelNameRow  = regexp.MustCompile(`^[a-zA-Z0-9_]*`)
	valueRow      = regexp.MustCompile(`^(?:[^"\\\n]|\\[\\"n])*`)
	helpForm      = regexp.MustCompile(`^(?:[^\\\n]|\\[\\n])*$`)
)

func modelName(s string) bool { return nameForm.MatchString(s) && !lineForm.MatchString(s) }

func modelLabelName(s string) bool {
	return labelNameForm.MatchString(s) && !takenForm.MatchString(s)
}

func modelText(s string) api.Errno {
	switch {
	case len(s) > api.MaxText:
		return api.ErrBytes
	case !utf8.ValidString(s):
		return api.ErrUtf
	}
	return api.OK
}

// modelPlace tells whether the label number i stands where it may.
func modelPlace(l []api.Label, i int) api.Errno {
	if i == 0 {
		return api.OK
	}
	return [...]api.Errno{api.ErrOrder, api.ErrTwice, api.OK}[cmp.Compare(l[i].Name, l[i-1].Name)+1]
}

// modelCheck tells the first error of all that there are.
func modelCheck(d api.Desc) api.Errno {
	var all []api.Errno
	if d.Kind < 1 || d.Kind > 3 {
		all = append(all, api.ErrKind)
	}
	if !modelName(d.Name) {
		all = append(all, api.ErrName)
	}
	all = append(all, modelText(d.Help))
	if len(d.Labels) > 16 {
		all = append(all, api.ErrMany)
	}
	for i, l := range d.Labels {
		if !modelLabelName(l.Name) {
			all = append(all, api.ErrName)
		}
		all = append(all, modelText(l.Value), modelPlace(d.Labels, i))
	}
	for _, e := range all {
		if e != api.OK {
			return e
		}
	}
	return api.OK
}

// modelCompare holds two series against each other as lists of texts; a label more is what goes on.
func modelCompare(a, b api.Desc) int {
	flat := func(d api.Desc) []string {
		out := []string{d.Name}
		for _, l := range d.Labels {
			out = append(out, l.Name, l.Value)
		}
		return out
	}
	return slices.Compare(flat(a), flat(b))
}

func modelPrint(name string, l []api.Label) string {
	var all []string
	for _, one := range l {
		all = append(all, one.Name+`="`+strings.NewReplacer(`\`, `\\`, `"`, `\"`, "\n", `\n`).Replace(one.Value)+`"`)
	}
	if len(all) == 0 {
		return name
	}
	return name + "{" + strings.Join(all, ",") + "}"
}

// modelParse goes through a text by patterns.
func modelParse(text string) (string, []api.Label, api.Errno, int) {
	fail := func(e api.Errno, at int) (string, []api.Label, api.Errno, int) { return "", nil, e, at }
	is := func(at int, c byte) bool { return at < len(text) && text[at] == c }
	name := nameRow.FindString(text)
	at := len(name)
	if !modelName(name) {
		return fail(api.ErrName, 0)
	}
	if at == len(text) {
		return name, nil, api.OK, 0
	}
	if !is(at, '{') {
		return fail(api.ErrForm, at)
	}
	var l []api.Label
	for ok := true; ok; ok = is(at, ',') {
		at++
		if len(l) == 16 {
			return fail(api.ErrMany, at)
		}
		one := labelNameRow.FindString(text[at:])
		if !modelLabelName(one) {
			return fail(api.ErrName, at)
		}
		l = append(l, api.Label{Name: one})
		if e := modelPlace(l, len(l)-1); e != api.OK {
			return fail(e, at)
		}
		at += len(one)
		for _, c := range []byte(`="`) {
			if !is(at, c) {
				return fail(api.ErrForm, at)
			}
			at++
		}
		row := valueRow.FindString(text[at:])
		if !is(at+len(row), '"') {
			return fail(api.ErrForm, at+len(row))
		}
		value := strings.NewReplacer(`\\`, `\`, `\"`, `"`, `\n`, "\n").Replace(row)
		if e := modelText(value); e != api.OK {
			return fail(e, at)
		}
		l[len(l)-1].Value = value
		at += len(row) + 1
	}
	if !is(at, '}') {
		return fail(api.ErrForm, at)
	}
	if at+1 < len(text) {
		return fail(api.ErrForm, at+1)
	}
	return name, l, api.OK, 0
}

// modelUnhelp reads a help by a pattern.
func modelUnhelp(s string) (string, bool) {
	if !helpForm.MatchString(s) {
		return "", false
	}
	return strings.NewReplacer(`\\`, `\`, `\n`, "\n").Replace(s), true
}

// wants holds Parse against an answer.
func wants(t *testing.T, text, name string, l []api.Label, e api.Errno, at int) {
	t.Helper()
	n, got, err, place := label.Parse(text)
	if n != name || !slices.Equal(got, l) || err != e || place != at {
		t.Fatalf("Parse(%.200q): %q, %.300q, %d at %d, not %q, %.300q, %d at %d", text, n, got, err, place, name, l, e, at)
	}
}

// wantsModel holds Parse against the model.
func wantsModel(t *testing.T, text string) {
	t.Helper()
	name, l, e, at := modelParse(text)
	wants(t, text, name, l, e, at)
}

// each calls f with every text of at most n pieces.
func each(pieces []string, n int, f func(s string)) {
	var grow func(s string, n int)
	grow = func(s string, n int) {
		f(s)
		if n == 0 {
			return
		}
		for _, p := range pieces {
			grow(s+p, n-1)
		}
	}
	grow("", n)
}

// someOf tells one of a list.
func someOf(r *rand.Rand, l ...string) string { return l[r.Intn(len(l))] }

// someText tells a text of a few pieces, often with what is escaped, now and then wrong.
func someText(r *rand.Rand, wrong bool) string {
	out := ""
	for range r.Intn(5) {
		out += someOf(r, "a", "n", "\\", "\"", "\n", "é", "\ufffd", "{", "}", ",", "=", " ", "\U0001f600", "\x00")
	}
	if wrong && r.Intn(4) == 0 {
		out += someOf(r, wrongTexts()...)
	}
	return out
}

// someSeries tells a name and labels that may be, of few names, so that many are alike in part.
func someSeries(r *rand.Rand) (string, []api.Label) {
	var l []api.Label
	for _, name := range []string{"A", "_", "_1", "a", "a1", "aa", "b", "sum", "x_sum"} {
		if r.Intn(4) == 0 {
			l = append(l, api.Label{Name: name, Value: someOf(r, "", "1", "10", "2", someText(r, false))})
		}
	}
	return someOf(r, "a", "ab", "b", "a:b", "le"), l
}

// someDesc tells a description with something wrong, or with nothing.
func someDesc(r *rand.Rand) api.Desc {
	d := api.Desc{Kind: 1 + r.Intn(3), Help: someText(r, r.Intn(4) == 0)}
	d.Name, d.Labels = someSeries(r)
	if r.Intn(12) == 0 {
		d.Kind = r.Intn(9) - 3
	}
	if r.Intn(12) == 0 {
		d.Name = someOf(r, "", "1a", "x_sum", "_count", "é", "a b")
	}
	if r.Intn(12) == 0 {
		d.Help = strings.Repeat("x", api.MaxText+r.Intn(3)-1) + someOf(r, "", "\xff")
	}
	if r.Intn(12) == 0 {
		d.Labels = manyLabels(api.MaxLabels + r.Intn(2))
	}
	for range r.Intn(3) {
		if len(d.Labels) == 0 {
			break
		}
		i, k := r.Intn(len(d.Labels)), r.Intn(len(d.Labels))
		switch r.Intn(4) {
		case 0:
			d.Labels[i].Name = someOf(r, "", "1", "le", "quantile", "__a", "a:b", "é")
		case 1:
			d.Labels[i].Value = someOf(r, "\xff", strings.Repeat("y", api.MaxText+1), strings.Repeat("\xff", api.MaxText+1))
		case 2:
			d.Labels[i].Name = d.Labels[k].Name
		case 3:
			d.Labels[i], d.Labels[k] = d.Labels[k], d.Labels[i]
		}
	}
	return d
}

// P10.1

func TestNameExamples(t *testing.T) {
	long := strings.Repeat("a", api.MaxName)
	for _, c := range []struct {
		s               string
		name, labelName bool
	}{
		{"a", true, true}, {"a:b_1", true, false}, {"1a", false, false}, {"", false, false}, {"a-b", false, false},
		{"x_sum", false, true}, {"_sum", false, true}, {"sum", true, true}, {"a_count_", true, true},
		{"a:b", true, false}, {"le", true, false}, {"quantile", true, false}, {"__a", true, false}, {"_a", true, true}, {"le_", true, true},
		{"x_bucket", false, true}, {"_bucket", false, true}, {"bucket", true, true}, {"x_count", false, true}, {"_count", false, true}, {"count", true, true},
		{"x_sum_sum", false, true}, {"x_sum_a", true, true}, {"x_sum:", true, false}, {"x:_sum", false, false}, {"x_Sum", true, true}, {"x_sums", true, true},
		{":", true, false}, {"_", true, true}, {"__", true, false}, {"___", true, false}, {"a__", true, true}, {"_a_", true, true}, {"::", true, false}, {"_:", true, false},
		{"Le", true, true}, {"lE", true, true}, {"ale", true, true}, {"quantiles", true, true}, {"Quantile", true, true}, {"_le", true, true},
		{"0", false, false}, {"9z", false, false}, {"z9", true, true}, {"a0", true, true}, {" a", false, false}, {"a ", false, false}, {"a\n", false, false}, {"\na", false, false}, {"a\x00", false, false},
		{"é", false, false}, {"aé", false, false}, {"a\xff", false, false}, {"\xff", false, false}, {"ａ", false, false}, {"a٣", false, false},
		{long, true, true}, {long + "a", false, false}, {long[1:] + ":", true, false}, {long[1:] + "9", true, true}, {"9" + long[1:], false, false}, {long[4:] + "_sum", false, true},
		{long[1:] + "é", false, false}, {long + long, false, false}, {strings.Repeat("a", 1<<16), false, false},
	} {
		if name, labelName := label.Name(c.s), label.LabelName(c.s); name != c.name || labelName != c.labelName {
			t.Errorf("%.80q: Name %v, LabelName %v", c.s, name, labelName)
		}
	}
}

func TestNamesOfEveryByte(t *testing.T) {
	for i := range 256 {
		c := string([]byte{byte(i)})
		for _, s := range []string{c, "a" + c, c + "a", "a" + c + "a"} {
			if label.Name(s) != modelName(s) || label.LabelName(s) != modelLabelName(s) {
				t.Errorf("%q: Name %v, LabelName %v", s, label.Name(s), label.LabelName(s))
			}
		}
	}
}

func TestShortNames(t *testing.T) {
	each([]string{"_", "a", "le", "quantile", "sum", "_count", "bucket", ":", "1", "-"}, 4, func(s string) {
		if label.Name(s) != modelName(s) || label.LabelName(s) != modelLabelName(s) {
			t.Fatalf("%q: Name %v, LabelName %v", s, label.Name(s), label.LabelName(s))
		}
	})
}

func TestCheckExamples(t *testing.T) {
	for i, c := range []struct {
		d api.Desc
		e api.Errno
	}{
		{api.Desc{Kind: 4, Name: "a"}, api.ErrKind},
		{counter("x_sum"), api.ErrName},
		{counter("a", "b", "", "a", ""), api.ErrOrder},
		{counter("a", "a", "", "a", ""), api.ErrTwice},
		{counter("a", "a", "\xff"), api.ErrUtf},
		{counter("a"), api.OK},
		{counter("a", "a", "", "b", ""), api.OK},
		{counter("a", "a", "1", "b", "2", "a", "3"), api.ErrOrder},
		{counter("a", "a", "1", "a", "2", "a", "3"), api.ErrTwice},
		{counter("a", "a", "", "aa", "", "ab", "", "b", ""), api.OK},
		{counter("a", "aa", "", "a", ""), api.ErrOrder},
		{counter("a", "Z", "", "_", "", "a", ""), api.OK},
		{counter("a", "a", "", "Z", ""), api.ErrOrder},
		{counter("le", "x_sum", ""), api.OK},
		{counter("a:b", "a:b", ""), api.ErrName},
		{api.Desc{}, api.ErrKind},
	} {
		if e := label.Check(c.d); e != c.e {
			t.Errorf("%d: %d, not %d", i, e, c.e)
		}
	}
}

func TestCheckOfKinds(t *testing.T) {
	for _, kind := range []int{math.MinInt, -1, 0, 1, 2, 3, 4, 5, 257, 1<<32 + 1, math.MaxInt} {
		want := api.ErrKind
		if kind == api.Counter || kind == api.Histogram || kind == api.Summary {
			want = api.OK
		}
		if e := label.Check(api.Desc{Kind: kind, Name: "a"}); e != want {
			t.Errorf("kind %d: %d", kind, e)
		}
	}
}

func TestCheckOfTexts(t *testing.T) {
	check := func(s string, want api.Errno) {
		t.Helper()
		if e := label.Check(api.Desc{Kind: api.Summary, Name: "a", Help: s}); e != want {
			t.Errorf("help %.40q: %d, not %d", s, e, want)
		}
		if e := label.Check(counter("a", "x", s)); e != want {
			t.Errorf("value %.40q: %d, not %d", s, e, want)
		}
		if e := label.Check(counter("a", "x", "", "y", s)); e != want {
			t.Errorf("last value %.40q: %d, not %d", s, e, want)
		}
	}
	for _, s := range rightTexts() {
		check(s, api.OK)
		check("a"+s+"b", api.OK)
	}
	for _, s := range wrongTexts() {
		check(s, api.ErrUtf)
		check("é"+s, api.ErrUtf)
		check(s+"z", api.ErrUtf)
		check(strings.Repeat("x", api.MaxText-len(s))+s, api.ErrUtf)
		check(s+strings.Repeat("x", api.MaxText-len(s)), api.ErrUtf)
		check(s+strings.Repeat("x", api.MaxText), api.ErrBytes)
	}
	for _, s := range bytesBeside(api.MaxText) {
		check(s, api.OK)
		check(s[:len(s)-1]+"\xff", api.ErrUtf)
	}
	for _, s := range bytesBeside(api.MaxText + 1) {
		check(s, api.ErrBytes)
	}
}

// Every sequence of at most four bytes that are edges of the encoding.
func TestCheckOfEncodings(t *testing.T) {
	var pieces []string
	for _, c := range []byte{0x00, 0x7f, 0x80, 0x8f, 0x90, 0x9f, 0xa0, 0xbd, 0xbf, 0xc0, 0xc1, 0xc2, 0xdf, 0xe0, 0xe1, 0xec, 0xed, 0xee, 0xef, 0xf0, 0xf1, 0xf3, 0xf4, 0xf5, 0xff} {
		pieces = append(pieces, string([]byte{c}))
	}
	each(pieces, 4, func(s string) {
		want := api.OK
		if !utf8.ValidString(s) {
			want = api.ErrUtf
		}
		if e := label.Check(api.Desc{Kind: api.Counter, Name: "a", Help: s}); e != want {
			t.Fatalf("% x: %d, not %d", s, e, want)
		}
	})
}

func TestCheckOfManyLabels(t *testing.T) {
	for n := range api.MaxLabels + 4 {
		want := api.OK
		if n > api.MaxLabels {
			want = api.ErrMany
		}
		if e := label.Check(api.Desc{Kind: api.Counter, Name: "a", Labels: manyLabels(n)}); e != want {
			t.Errorf("%d labels: %d, not %d", n, e, want)
		}
	}
	if e := label.Check(api.Desc{Kind: api.Counter, Name: "a", Labels: make([]api.Label, 1<<16)}); e != api.ErrMany {
		t.Errorf("very many labels: %d", e)
	}
}

// spoil tells 16 labels of which the one number i has that error.
func spoil(e api.Errno, i int) []api.Label {
	l := manyLabels(api.MaxLabels)
	switch e {
	case api.ErrName:
		l[i].Name += "-"
	case api.ErrBytes:
		l[i].Value = strings.Repeat("v", api.MaxText+1)
	case api.ErrUtf:
		l[i].Value = "v\xc3"
	case api.ErrTwice:
		l[i].Name = l[i-1].Name
	case api.ErrOrder:
		l[i].Name = "m"
	}
	return l
}

func TestCheckOfEachLabel(t *testing.T) {
	for i := range api.MaxLabels {
		for _, e := range []api.Errno{api.ErrName, api.ErrBytes, api.ErrUtf, api.ErrTwice, api.ErrOrder} {
			if i == 0 && (e == api.ErrTwice || e == api.ErrOrder) {
				continue
			}
			if got := label.Check(api.Desc{Kind: api.Histogram, Name: "a", Labels: spoil(e, i)}); got != e {
				t.Errorf("label %d: %d, not %d", i, got, e)
			}
		}
	}
}

// All errors at once, and then the first of them mended, and the next one.
func TestCheckTellsTheFirstError(t *testing.T) {
	far := strings.Repeat("\xff", api.MaxText+1)
	d := api.Desc{Name: "x_sum", Help: far, Labels: append(labels("le", far, "a", far), manyLabels(api.MaxLabels)...)}
	for i, step := range []struct {
		want api.Errno
		mend func()
	}{
		{api.ErrKind, func() { d.Kind = api.Counter }},
		{api.ErrName, func() { d.Name = "x" }},
		{api.ErrBytes, func() { d.Help = "\xff" }},
		{api.ErrUtf, func() { d.Help = "" }},
		{api.ErrMany, func() { d.Labels = d.Labels[:api.MaxLabels] }},
		{api.ErrName, func() { d.Labels[0].Name = "b" }},
		{api.ErrBytes, func() { d.Labels[0].Value = "\xff" }},
		{api.ErrUtf, func() { d.Labels[0].Value = ""; d.Labels[1].Name = "1" }},
		{api.ErrName, func() { d.Labels[1].Name = "a" }},
		{api.ErrBytes, func() { d.Labels[1].Value = "\xff" }},
		{api.ErrUtf, func() { d.Labels[1].Value = "" }},
		{api.ErrOrder, func() { d.Labels[1].Name = "b"; d.Labels[1].Value = "\xff" }},
		{api.ErrUtf, func() { d.Labels[1].Value = far }},
		{api.ErrBytes, func() { d.Labels[1].Value = "" }},
		{api.ErrTwice, func() { d.Labels[1].Name = "c" }},
		{api.OK, func() {}},
	} {
		if e := label.Check(d); e != step.want {
			t.Errorf("step %d: %d, not %d", i, e, step.want)
		}
		step.mend()
	}
}

func TestCheck(t *testing.T) {
	r := rand.New(rand.NewSource(101))
	seen := map[api.Errno]int{}
	for range 100000 {
		d := someDesc(r)
		want := modelCheck(d)
		seen[want]++
		if e := label.Check(d); e != want {
			t.Fatalf("%#v: %d, not %d", d, e, want)
		}
	}
	for _, e := range []api.Errno{api.OK, api.ErrKind, api.ErrName, api.ErrBytes, api.ErrUtf, api.ErrMany, api.ErrTwice, api.ErrOrder} {
		if seen[e] < 100 {
			t.Errorf("the error %d came %d times", e, seen[e])
		}
	}
}

// P10.2

// rising tells series, each ahead of the next.
func rising() []api.Desc {
	return []api.Desc{
		{}, counter("", "", ""), counter("", "", "", "", ""), counter("", "", "\x00"), counter("\x00"),
		counter("A"), counter("a"), counter("a", "", "x"), counter("a", "A", "1"), counter("a", "x", ""), counter("a", "x", "", "a", "9"), counter("a", "x", "", "y", ""),
		counter("a", "x", "1"), counter("a", "x", "1", "x", "1"), counter("a", "x", "1", "y", ""), counter("a", "x", "1", "y", "0"), counter("a", "x", "10"), counter("a", "x", "10", "a", ""),
		counter("a", "x", "2"), counter("a", "x", "2", "z", "1"), counter("a", "x", "\x7f"), counter("a", "x", "é"), counter("a", "x", "\xff"),
		counter("a", "xx", ""), counter("a", "y", "1"), counter("a\x00"), counter("ab"), counter("ab", "a", ""), counter("b"), counter("b", "", ""), counter("é"), counter("\xff"),
	}
}

func TestCompareExamples(t *testing.T) {
	for i, c := range []struct {
		a, b api.Desc
		want int
	}{
		{counter("a"), counter("a", "x", "1"), -1},
		{counter("a", "x", "1"), counter("a", "x", "10"), -1},
		{counter("a", "x", "2"), counter("a", "y", "1"), -1},
		{counter("b"), counter("a", "x", "1"), 1},
	} {
		if got := label.Compare(c.a, c.b); got != c.want {
			t.Errorf("%d: %d, not %d", i, got, c.want)
		}
		if got := label.Compare(c.b, c.a); got != -c.want {
			t.Errorf("%d turned round: %d, not %d", i, got, -c.want)
		}
	}
}

func TestCompareAndSameOfRisingSeries(t *testing.T) {
	l := rising()
	for i, a := range l {
		for k, b := range l {
			if got := label.Compare(a, b); got != cmp.Compare(i, k) {
				t.Errorf("Compare(%#v, %#v): %d", a, b, got)
			}
			a.Kind, b.Kind = 2, 2
			if got := label.Same(a, b); got != (i == k) {
				t.Errorf("Same(%#v, %#v): %v", a, b, got)
			}
		}
	}
}

func TestKindAndHelp(t *testing.T) {
	for _, d := range rising() {
		d.Kind = api.Counter
		other := d
		other.Kind = api.Histogram
		if label.Compare(d, other) != 0 || label.Compare(other, d) != 0 || label.Same(d, other) || label.Same(other, d) {
			t.Errorf("%#v: kinds", d)
		}
		other = d
		other.Help = "x"
		if label.Compare(d, other) != 0 || label.Compare(other, d) != 0 || label.Same(d, other) || label.Same(other, d) {
			t.Errorf("%#v: helps", d)
		}
		other.Help = ""
		if !label.Same(d, other) {
			t.Errorf("%#v: not the same as it", d)
		}
	}
	odd := api.Desc{Kind: -7, Name: "\xff", Help: "\n\xff", Labels: labels("", "\xff", "b", "", "a", "")}
	if !label.Same(odd, odd) || label.Compare(odd, odd) != 0 {
		t.Error("a description that may not be")
	}
	if a, b := counter("a", "a", "", "b", ""), counter("a", "b", "", "a", ""); label.Same(a, b) || label.Compare(a, b) != -1 {
		t.Error("labels in another order")
	}
	if a, b := counter("a", "x", "yz"), counter("a", "xy", "z"); label.Same(a, b) || label.Compare(a, b) != -1 {
		t.Error("names and values of the same letters")
	}
}

func TestNoLabels(t *testing.T) {
	a, b := counter("a"), counter("a")
	a.Labels, b.Labels = nil, []api.Label{}
	if !label.Same(a, b) || !label.Same(b, a) || label.Compare(a, b) != 0 || label.Check(a) != api.OK || label.Check(b) != api.OK || label.Print("a", a.Labels) != "a" || label.Print("a", b.Labels) != "a" {
		t.Error("a list without elements is told apart from none")
	}
}

func TestCompareAndSame(t *testing.T) {
	r := rand.New(rand.NewSource(102))
	for range 100000 {
		a, b := someDesc(r), someDesc(r)
		if r.Intn(2) == 0 {
			b = a
			b.Labels = slices.Clone(a.Labels)
			if n := len(b.Labels); n > 0 {
				b.Labels[r.Intn(n)].Value = someText(r, true)
				b.Labels = b.Labels[:n-r.Intn(2)]
			}
		}
		want := modelCompare(a, b)
		if got := label.Compare(a, b); got != want {
			t.Fatalf("Compare(%#v, %#v): %d, not %d", a, b, got, want)
		}
		if got, want := label.Same(a, b), want == 0 && a.Kind == b.Kind && a.Help == b.Help; got != want {
			t.Fatalf("Same(%#v, %#v): %v, not %v", a, b, got, want)
		}
	}
}

// P10.3

func TestPrintExamples(t *testing.T) {
	for _, c := range []struct {
		name string
		l    []api.Label
		want string
	}{
		{"a", labels("x", `q"\`, "y", ""), `a{x="q\"\\",y=""}`},
		{"a", nil, `a`},
		{"a", labels("x", ""), `a{x=""}`},
		{"c", labels("x", "\n"), `c{x="\n"}`},
		{"c", labels("x", `\n`), `c{x="\\n"}`},
		{"c", labels("x", "\\\n\"n"), `c{x="\\\n\"n"}`},
		{"", nil, ``},
		{"", labels("", ""), `{=""}`},
		{"a\n\"\\", labels("x\n\"\\", ""), "a\n\"\\{x\n\"\\=\"\"}"},
		{"x_bucket", labels("b", "1", "a", "2", "le", "+Inf"), `x_bucket{b="1",a="2",le="+Inf"}`},
		{"a", labels("x", "1", "x", "1"), `a{x="1",x="1"}`},
		{"\xff", labels("\xfe", "a\xc3\ufffd\r\t\x00é"), "\xff{\xfe=\"a\xc3\ufffd\r\t\x00é\"}"},
	} {
		if got := label.Print(c.name, c.l); got != c.want {
			t.Errorf("%q, not %q", got, c.want)
		}
	}
}

func TestPrintOfEveryByte(t *testing.T) {
	for i := range 256 {
		c := string([]byte{byte(i)})
		if got, want := label.Print("a", labels("x", "<"+c+">")), modelPrint("a", labels("x", "<"+c+">")); got != want {
			t.Errorf("%q, not %q", got, want)
		}
	}
}

func TestPrint(t *testing.T) {
	r := rand.New(rand.NewSource(103))
	for range 20000 {
		d := someDesc(r)
		if got, want := label.Print(d.Name, d.Labels), modelPrint(d.Name, d.Labels); got != want {
			t.Fatalf("%q, not %q", got, want)
		}
	}
	long := strings.Repeat("\\\"\nx", 1<<16)
	if got, want := label.Print(long, labels(long, long)), modelPrint(long, labels(long, long)); got != want {
		t.Error("a long one")
	}
}

// P10.4

func TestParseExamples(t *testing.T) {
	wants(t, `a{x="q\"\\",y=""}`, "a", labels("x", `q"\`, "y", ""), api.OK, 0)
	wants(t, "a", "a", nil, api.OK, 0)
	for _, c := range []struct {
		text string
		e    api.Errno
		at   int
	}{
		{`a{}`, api.ErrName, 2}, {`a{x="1",}`, api.ErrName, 8}, {`a{x=1}`, api.ErrForm, 4}, {`a{x="1"} `, api.ErrForm, 8}, {`a x`, api.ErrForm, 1},
		{`a{y="1",x="2"}`, api.ErrOrder, 8}, {`a{x="\t"}`, api.ErrForm, 5}, {`a{x="1`, api.ErrForm, 6}, {`1{`, api.ErrName, 0},
	} {
		wants(t, c.text, "", nil, c.e, c.at)
	}
}

func TestParseOfTheName(t *testing.T) {
	long := strings.Repeat("n", api.MaxName)
	for _, name := range []string{"a", "a:b_1", "sum", "_", ":", "le", "quantile", "__a", long} {
		wants(t, name, name, nil, api.OK, 0)
		wants(t, name+`{x=""}`, name, labels("x", ""), api.OK, 0)
		for _, behind := range []string{" ", "}", "=", "\"", "\n", "\xff", "é", "-", "\x00", " {x=\"\"}", "\\"} {
			wants(t, name+behind, "", nil, api.ErrForm, len(name))
		}
		wants(t, name+"{", "", nil, api.ErrName, len(name)+1)
		wants(t, name+"{{", "", nil, api.ErrName, len(name)+1)
	}
	for _, name := range []string{"", "1", "1a", "x_sum", "_bucket", "a_count", "é", " a", "{", "\n", long + "n", strings.Repeat("n", 1<<20)} {
		for _, behind := range []string{"", "{", `{x=""}`, " ", "}", "\xff"} {
			wants(t, name+behind, "", nil, api.ErrName, 0)
		}
	}
}

// atEach calls f with a text of 16 labels, and with where the label number i begins, and its value.
func atEach(spoiled func(i int) []api.Label, from int, f func(text string, i, begin, value int)) {
	for i := from; i < api.MaxLabels; i++ {
		l := spoiled(i)
		begin := len("a{")
		if i > 0 {
			begin = len(label.Print("a", l[:i])) // the "}" of these stands where here a "," does
		}
		f(label.Print("a", l), i, begin, begin+len(l[i].Name)+len(`="`))
	}
}

func TestParseOfEachLabel(t *testing.T) {
	good := func(i int) []api.Label { return manyLabels(api.MaxLabels) }
	atEach(good, 0, func(text string, i, begin, value int) {
		wants(t, text, "a", manyLabels(api.MaxLabels), api.OK, 0)
		if text[begin:value+2] != "m"+string(rune('a'+i))+`="v"` {
			t.Fatalf("label %d stands at %d of %s", i, begin, text)
		}
		for _, cut := range []int{begin, begin + 1, begin + 2, value - 1, value, value + 1, value + 2} {
			wantsModel(t, text[:cut])
		}
		wants(t, text[:begin], "", nil, api.ErrName, begin)
		wants(t, text[:begin+2], "", nil, api.ErrForm, begin+2)
		wants(t, text[:begin+3], "", nil, api.ErrForm, begin+3)
		wants(t, text[:value], "", nil, api.ErrForm, value)
		wants(t, text[:value+1], "", nil, api.ErrForm, value+1)
		wants(t, text[:value+2], "", nil, api.ErrForm, value+2)
		for _, c := range []string{" ", ";", "-", "\n", "\xff", "é", "\x00", "\\", "'"} {
			wants(t, text[:begin]+c+text[begin:], "", nil, api.ErrName, begin)
			wants(t, text[:begin+2]+c+text[begin+2:], "", nil, api.ErrForm, begin+2)
			wants(t, text[:value-1]+c+text[value-1:], "", nil, api.ErrForm, value-1)
			wants(t, text[:value+2]+c+text[value+2:], "", nil, api.ErrForm, value+2)
		}
		for _, c := range []string{"\n", "\\", "\\t", "\\N", "\\'", "\\0", "\\\n", "\\\xff"} {
			wants(t, text[:value]+c+text[value:], "", nil, api.ErrForm, value)
		}
		wants(t, text[:value+1]+"\n"+text[value+1:], "", nil, api.ErrForm, value+1)
		wants(t, text[:value]+`\`, "", nil, api.ErrForm, value)
		wants(t, text[:value+1]+`\`, "", nil, api.ErrForm, value+1)
		wants(t, text[:value]+`\"`, "", nil, api.ErrForm, value+2)
	})
	for _, e := range []api.Errno{api.ErrName, api.ErrTwice, api.ErrOrder} {
		from := 0
		if e != api.ErrName {
			from = 1
		}
		atEach(func(i int) []api.Label {
			if e == api.ErrName {
				l := manyLabels(api.MaxLabels)
				l[i].Name = "__" + l[i].Name
				return l
			}
			return spoil(e, i)
		}, from, func(text string, i, begin, value int) { wants(t, text, "", nil, e, begin) })
	}
	for _, e := range []api.Errno{api.ErrBytes, api.ErrUtf} {
		atEach(func(i int) []api.Label { return spoil(e, i) }, 0, func(text string, i, begin, value int) { wants(t, text, "", nil, e, value) })
	}
}

func TestParseOfLabelNames(t *testing.T) {
	long := strings.Repeat("n", api.MaxName)
	for _, name := range []string{"x", "_", "_1", "le_", "x_sum", "count", "Le", long} {
		wants(t, "a{"+name+`="1"}`, "a", labels(name, "1"), api.OK, 0)
	}
	for _, name := range []string{"", "1", "1x", "le", "quantile", "__", "__x", long + "n", strings.Repeat("n", 1<<20)} {
		wants(t, "a{"+name+`="1"}`, "", nil, api.ErrName, 2)
		wants(t, `a{A="1",`+name+`="1"}`, "", nil, api.ErrName, 8)
		wants(t, "a{"+name, "", nil, api.ErrName, 2)
	}
	// A `:` ends the row of a label's name, and is no `=`.
	wants(t, `a{x:y="1"}`, "", nil, api.ErrForm, 3)
	wants(t, `a{:="1"}`, "", nil, api.ErrName, 2)
	// What is wrong with the name comes ahead of where it stands, and that ahead of what follows.
	wants(t, `a{x="1",le`, "", nil, api.ErrName, 8)
	wants(t, `a{x="1",x`, "", nil, api.ErrTwice, 8)
	wants(t, `a{x="1",w`, "", nil, api.ErrOrder, 8)
	wants(t, `a{x="1",y="2",x="3"}`, "", nil, api.ErrOrder, 14)
	wants(t, `a{x="1",xx="2",x="3"}`, "", nil, api.ErrOrder, 15)
	wants(t, `a{x="1",x="`+"\n", "", nil, api.ErrTwice, 8)
}

func TestParseOfManyLabels(t *testing.T) {
	most := label.Print("a", manyLabels(api.MaxLabels))
	wants(t, most, "a", manyLabels(api.MaxLabels), api.OK, 0)
	open := most[:len(most)-1] + ","
	for _, behind := range []string{"", "}", " ", `le="1"}`, `ma="1"}`, `zz="1"}`, `zz`, "\xff"} {
		wants(t, open+behind, "", nil, api.ErrMany, len(open))
	}
	wants(t, label.Print("a", manyLabels(api.MaxLabels+4)), "", nil, api.ErrMany, len(open))
	wants(t, open[:len(open)-1], "", nil, api.ErrForm, len(open)-1)
	wants(t, most+" ", "", nil, api.ErrForm, len(most))
}

func TestParseOfValues(t *testing.T) {
	value := func(text string, want string) {
		t.Helper()
		wants(t, `a{x="`+text+`"}`, "a", labels("x", want), api.OK, 0)
	}
	wrong := func(text string, e api.Errno, at int) { t.Helper(); wants(t, `a{x="`+text+`"}`, "", nil, e, at+5) }
	for _, s := range rightTexts() {
		value(s, s)
	}
	for _, s := range wrongTexts() {
		wrong(s, api.ErrUtf, 0)
		wrong("abc"+s, api.ErrUtf, 0)
		wrong(`\n`+s+`\\`, api.ErrUtf, 0)
		// The form comes first.
		wrong(s+`\t`, api.ErrForm, len(s))
		wrong(s+"\n", api.ErrForm, len(s))
		wants(t, `a{x="`+s, "", nil, api.ErrForm, 5+len(s))
		wrong(s+strings.Repeat("x", api.MaxText), api.ErrBytes, 0)
	}
	for _, c := range []struct{ text, want string }{
		{`\\`, `\`}, {`\"`, `"`}, {`\n`, "\n"}, {`\\n`, `\n`}, {`\\\n`, "\\\n"}, {`\\\"`, `\"`}, {`\\\\`, `\\`}, {`\"\"`, `""`}, {`nn`, `nn`}, {`{},=`, `{},=`}, {"\r\t", "\r\t"},
	} {
		value(c.text, c.want)
	}
	// What a value says is counted, not how it is written; and at which byte it is wrong is that of the text.
	for _, e := range []string{`\\`, `\"`, `\n`} {
		value(strings.Repeat(e, api.MaxText), strings.Repeat(map[string]string{`\\`: `\`, `\"`: `"`, `\n`: "\n"}[e], api.MaxText))
		wrong(strings.Repeat(e, api.MaxText+1), api.ErrBytes, 0)
		wrong(strings.Repeat(e, api.MaxText+1)+`\t`, api.ErrForm, 2*(api.MaxText+1))
		wants(t, `a{x="`+strings.Repeat(e, api.MaxText+1), "", nil, api.ErrForm, 5+2*(api.MaxText+1))
	}
	for _, s := range bytesBeside(api.MaxText) {
		wants(t, label.Print("a", labels("x", s)), "a", labels("x", s), api.OK, 0)
		wants(t, label.Print("a", labels("x", s+"x")), "", nil, api.ErrBytes, 5)
	}
	wrong(strings.Repeat("y", 1<<20), api.ErrBytes, 0)
	// A value is held against its bounds where it ends, ahead of what stands behind it.
	wants(t, `a{x="`+"\xff"+`"`, "", nil, api.ErrUtf, 5)
	wants(t, `a{x="`+"\xff"+`";`, "", nil, api.ErrUtf, 5)
	wants(t, `a{x="1",y="`+"\xff"+`",x="2"}`, "", nil, api.ErrUtf, 11)
	wants(t, `a{x="`+strings.Repeat("y", api.MaxText+1)+`"`, "", nil, api.ErrBytes, 5)
}

func TestParseOfWhatStandsBehind(t *testing.T) {
	for _, behind := range []string{" ", "}", "{", ",", "\n", "\x00", "\xff", "a", `"`, `,y="1"}`, ` 5`} {
		wants(t, `a{x="1"}`+behind, "", nil, api.ErrForm, 8)
	}
	for _, instead := range []string{"", "{", " ", "=", `"`, "\n", "\\", "y"} {
		wants(t, `a{x="1"`+instead, "", nil, api.ErrForm, 7)
		wants(t, `a{x="1",y="2"`+instead, "", nil, api.ErrForm, 13)
	}
}

func TestParseOfShortTexts(t *testing.T) {
	each([]string{"a", "1", "_sum", ":", "{", "}", `"`, "=", ",", `\`, "\n", " ", "\xff"}, 4, func(s string) { wantsModel(t, s) })
	each([]string{"a", `a="`, `b=""`, `le=""`, "{", "}", `"`, "=", ",", `\`, "n", "\n", "\xff", "é"}, 4, func(s string) {
		wantsModel(t, "a{"+s)
		wantsModel(t, `a{a="`+s)
		wantsModel(t, `a{a="`+s+`"}`)
	})
}

// Texts of series, spoiled at a place or two.
func TestParse(t *testing.T) {
	r := rand.New(rand.NewSource(104))
	seen := map[api.Errno]int{}
	for range 200000 {
		d := someDesc(r)
		text := []byte(label.Print(d.Name, d.Labels))
		for range r.Intn(3) {
			at := r.Intn(len(text) + 1)
			piece := someOf(r, "", "a", "1", "_", ":", "{", "}", `"`, "=", ",", `\`, "n", "\n", " ", "\xff", "é", `\\`, `\"`, `\n`, `\t`, `"}`, `",a="`, "le")
			until := min(len(text), at+r.Intn(3))
			text = slices.Concat(text[:at], []byte(piece), text[until:])
		}
		name, l, e, at := modelParse(string(text))
		seen[e]++
		wants(t, string(text), name, l, e, at)
	}
	for _, e := range []api.Errno{api.OK, api.ErrName, api.ErrForm, api.ErrMany, api.ErrBytes, api.ErrUtf, api.ErrTwice, api.ErrOrder} {
		if seen[e] < 100 {
			t.Errorf("the error %d came %d times", e, seen[e])
		}
	}
}

// P10.5

func TestHelpExamples(t *testing.T) {
	for _, c := range []struct{ s, want string }{
		{"a\\b\n", `a\\b\n`}, {"", ""}, {`"`, `"`}, {`\n`, `\\n`}, {"\\\n", `\\\n`}, {"\n\n", `\n\n`}, {`\\`, `\\\\`}, {"\r\x00\t", "\r\x00\t"}, {"a\xffé\xc3", "a\xffé\xc3"}, {`\"`, `\\"`},
	} {
		if got := label.Help(c.s); got != c.want {
			t.Errorf("Help(%q): %q, not %q", c.s, got, c.want)
		}
		if got, ok := label.Unhelp(c.want); got != c.s || !ok {
			t.Errorf("Unhelp(%q): %q, %v", c.want, got, ok)
		}
	}
}

func TestUnhelpRefuses(t *testing.T) {
	for _, s := range []string{`a\`, `a\t`, `\`, `\"`, `\\\`, "\n", "a\nb", "a\n", "\\\n", `\N`, `\\\t`, `\n\`, "\\\xff", "\\é", "good\n", `n\ n`, `\0`} {
		if got, ok := label.Unhelp(s); got != "" || ok {
			t.Errorf("Unhelp(%q): %q, %v", s, got, ok)
		}
	}
}

func TestHelpOfEveryByte(t *testing.T) {
	for i := range 256 {
		c := string([]byte{byte(i)})
		want := "<" + c + ">"
		switch c {
		case "\n":
			want = `<\n>`
		case `\`:
			want = `<\\>`
		}
		if got := label.Help("<" + c + ">"); got != want {
			t.Errorf("Help of %q: %q", c, got)
		}
		for _, s := range []string{c, `\` + c, c + `\`, `\\` + c} {
			want, is := modelUnhelp(s)
			if got, ok := label.Unhelp(s); got != want || ok != is {
				t.Errorf("Unhelp(%q): %q, %v", s, got, ok)
			}
		}
	}
}

func TestShortHelps(t *testing.T) {
	each([]string{`\`, "n", "\n", `"`, "a", "\xff", "é"}, 6, func(s string) {
		if got, want := label.Help(s), strings.NewReplacer(`\`, `\\`, "\n", `\n`).Replace(s); got != want {
			t.Fatalf("Help(%q): %q, not %q", s, got, want)
		}
		want, is := modelUnhelp(s)
		if got, ok := label.Unhelp(s); got != want || ok != is {
			t.Fatalf("Unhelp(%q): %q, %v", s, got, ok)
		}
	})
}

// A help is told whatever its length is.
func TestLongHelps(t *testing.T) {
	s := strings.Repeat("\\\n\"x\xff", 1<<16)
	got, ok := label.Unhelp(label.Help(s))
	if got != s || !ok || len(label.Help(s)) != 7<<16 {
		t.Error("a long help")
	}
	if got, ok := label.Unhelp(label.Help(s) + `\`); got != "" || ok {
		t.Error("a long help that is wrong at its end")
	}
}

// P10.6

func TestSeriesThereAndBack(t *testing.T) {
	r := rand.New(rand.NewSource(106))
	for range 50000 {
		name, l := someSeries(r)
		if e := label.Check(api.Desc{Kind: api.Counter, Name: name, Labels: l}); e != api.OK {
			t.Fatalf("%q %q: %d", name, l, e)
		}
		wants(t, label.Print(name, l), name, l, api.OK, 0)
	}
	long := strings.Repeat("n", api.MaxName-1)
	var l []api.Label
	for i := range api.MaxLabels {
		l = append(l, api.Label{Name: long + string(rune('a'+i)), Value: strings.Repeat("\n", api.MaxText)})
	}
	wants(t, label.Print(long+":", l), long+":", l, api.OK, 0)
}

func TestWhatParseTakesIsTold(t *testing.T) {
	taken := 0
	look := func(text string) {
		name, l, e, _ := label.Parse(text)
		if e != api.OK {
			return
		}
		taken++
		if got := label.Print(name, l); got != text {
			t.Fatalf("%q is told as %q", text, got)
		}
		if e := label.Check(api.Desc{Kind: api.Counter, Name: name, Labels: l}); e != api.OK {
			t.Fatalf("%q is taken, but its error is %d", text, e)
		}
	}
	each([]string{"a", "{", "}", `="`, `"`, ",", `\`, "n", "é", "\xff", "\n"}, 5, look)
	each([]string{`a="`, `b="`, `"`, ",", "}", `\`, "n", "é", "\xff"}, 5, func(s string) { look("a{" + s); look(`a{A="` + s + `"}`) })
	if taken < 1000 {
		t.Errorf("only %d texts were taken", taken)
	}
}

func TestHelpThereAndBack(t *testing.T) {
	each([]string{`\`, "n", "\n", `"`, "a", "\xff"}, 6, func(s string) {
		if got, ok := label.Unhelp(label.Help(s)); got != s || !ok {
			t.Fatalf("Help of %q is read as %q, %v", s, got, ok)
		}
		if got, ok := label.Unhelp(s); ok && label.Help(got) != s {
			t.Fatalf("%q is read as %q, and told as %q", s, got, label.Help(got))
		}
	})
}

func TestCompareIsAnOrder(t *testing.T) {
	r := rand.New(rand.NewSource(107))
	for range 200 {
		var l []api.Desc
		for range 20 {
			l = append(l, someDesc(r))
		}
		slices.SortFunc(l, label.Compare)
		for i, a := range l {
			for k, b := range l {
				c := label.Compare(a, b)
				if c != -label.Compare(b, a) || i < k && c > 0 {
					t.Fatalf("%#v, %#v: %d", a, b, c)
				}
				if (c == 0) != (a.Name == b.Name && slices.Equal(a.Labels, b.Labels)) {
					t.Fatalf("%#v, %#v: %d", a, b, c)
				}
			}
		}
	}
}

func TestUnlikeSeriesHaveUnlikeTexts(t *testing.T) {
	r := rand.New(rand.NewSource(108))
	by := map[string]api.Desc{}
	for range 50000 {
		var d api.Desc
		d.Name, d.Labels = someSeries(r)
		text := label.Print(d.Name, d.Labels)
		if other, ok := by[text]; ok && label.Compare(d, other) != 0 {
			t.Fatalf("%#v and %#v are both %s", d, other, text)
		}
		by[text] = d
	}
	// Values that say what stands between labels.
	var all []string
	for _, l := range [][]api.Label{labels("a", `",b="`), labels("a", "", "b", ""), labels("a", `\",b=\"`), labels("a", `",b=\"`), labels("a", "\n"), labels("a", `\n`), labels("a", `\`, "b", `\`), labels("a", `\",b="\`)} {
		all = append(all, label.Print("a", l))
	}
	for i, s := range all {
		if slices.Contains(all[:i], s) {
			t.Errorf("%s is the text of two series", s)
		}
	}
}

// P10.7

// roomy tells a copy of labels with spare room behind them, which holds other ones, and a look whether all of it is left.
func roomy(l []api.Label) (out []api.Label, left func() bool) {
	all := append(slices.Clone(l), labels("spare", "1", "room", "2")...)
	was := slices.Clone(all)
	return all[:len(l)], func() bool { return slices.Equal(all, was) }
}

func TestArgumentsAreLeft(t *testing.T) {
	r := rand.New(rand.NewSource(109))
	for range 2000 {
		a, b := someDesc(r), someDesc(r)
		var leftA, leftB func() bool
		a.Labels, leftA = roomy(a.Labels)
		b.Labels, leftB = roomy(b.Labels)
		label.Check(a)
		label.Compare(a, b)
		label.Same(a, b)
		label.Same(a, a)
		label.Print(a.Name, a.Labels)
		if !leftA() || !leftB() {
			t.Fatalf("%#v or %#v was changed", a, b)
		}
	}
}

// within tells whether a text lies in the memory of another one.
func within(s, whole string) bool {
	if s == "" || whole == "" {
		return false
	}
	at := uintptr(unsafe.Pointer(unsafe.StringData(s)))
	from := uintptr(unsafe.Pointer(unsafe.StringData(whole)))
	return from <= at && at < from+uintptr(len(whole))
}

func TestAnswersAreNewMemory(t *testing.T) {
	text := strings.Clone(`abc{xyz="value",yz="\n"}`)
	name, l, _, _ := label.Parse(text)
	for _, s := range []string{name, l[0].Name, l[0].Value, l[1].Name, l[1].Value} {
		if within(s, text) {
			t.Errorf("%q is a piece of the text that was read", s)
		}
	}
	plain := strings.Clone("abc")
	name, _, _, _ = label.Parse(plain)
	said, _ := label.Unhelp(plain)
	for i, s := range []string{name, label.Print(plain, nil), label.Help(plain), said} {
		if s != plain || within(s, plain) {
			t.Errorf("%d: %q is a piece of what was handed in", i, s)
		}
	}
	_, again, _, _ := label.Parse(text)
	l = append(l, api.Label{})
	l[0], l[1] = api.Label{}, api.Label{}
	if !slices.Equal(again, labels("xyz", "value", "yz", "\n")) {
		t.Errorf("two answers share memory: %q", again)
	}
}

// What came ahead of a call is not seen in it.
func TestNothingIsKept(t *testing.T) {
	for range 3 {
		wants(t, `a{x="1"`, "", nil, api.ErrForm, 7)
		wants(t, `a{x="1"}`, "a", labels("x", "1"), api.OK, 0)
		wants(t, "b", "b", nil, api.OK, 0)
	}
}
