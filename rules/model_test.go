package rules_test

import (
	"fmt"
	"math"
	"math/big"
	"math/rand"
	"regexp"
	"slices"
	"strings"
	"testing"

	"gnomon/api"
	"gnomon/bucket"
	"gnomon/label"
	"gnomon/real"
	"gnomon/ring"
	"gnomon/snap"
)

const (
	// far is the length of the longest window, and the last moment at which a rule is worked out.
	far = int64(1) << 62
	// most is the greatest whole number.
	most = int64(math.MaxInt64)
)

var minus = math.Copysign(0, -1)

// Rules to be looked at.

// labels tells a list of labels, name and value by turns.
func labels(l ...string) []api.Label {
	var out []api.Label
	for i := 0; i < len(l); i += 2 {
		out = append(out, api.Label{Name: l[i], Value: l[i+1]})
	}
	return out
}

func number(x float64) api.Rule { return api.Rule{Kind: api.RuleNumber, X: x} }

// of tells a node of a series in a window; the labels name and value by turns.
func of(kind int, name string, window int64, l ...string) api.Rule {
	return api.Rule{Kind: kind, Name: name, Window: window, Labels: labels(l...)}
}

func quantile(num, den int64, name string, window int64, l ...string) api.Rule {
	x := of(api.RuleQuantile, name, window, l...)
	x.Num, x.Den = num, den
	return x
}

func two(kind int, a, b api.Rule) api.Rule { return api.Rule{Kind: kind, Args: []api.Rule{a, b}} }

func not(a api.Rule) api.Rule { return api.Rule{Kind: api.RuleNot, Args: []api.Rule{a}} }

// yes and no are truths.
func yes() api.Rule { return two(api.RuleLess, number(1), number(2)) }

func no() api.Rule { return two(api.RuleLess, number(2), number(1)) }

// nots tells a rule under so many Nots.
func nots(n int, x api.Rule) api.Rule {
	for range n {
		x = not(x)
	}
	return x
}

// plain tells a rule of each kind, without anything that is wrong.
func plain(kind int) api.Rule {
	switch {
	case kind == api.RuleNumber:
		return number(1)
	case kind == api.RuleQuantile:
		return quantile(1, 2, "h", 5)
	case kind < api.RuleQuantile:
		return of(kind, "a", 5)
	case kind < api.RuleAnd:
		return two(kind, number(1), number(2))
	case kind < api.RuleNot:
		return two(kind, yes(), no())
	}
	return not(yes())
}

// The chapter's words once more: which rules may be, and their text.

// words: what stands in the text of each kind, in the order of the chapter's table.
var words = strings.Fields("none number total rate count sum least greatest quantile + - * / < <= > >= == != and or not")

// fields: which fields count in each kind: X, S(eries and window), Q(uantile), or a letter for each of Args: n a number, t a truth.
var fields = strings.Fields("none X S S S S S S SQ nn nn nn nn nn nn nn nn nn nn tt tt t")

// flat tells the nodes of a rule as they are gone through.
func flat(x api.Rule) []api.Rule {
	all := []api.Rule{x}
	for _, a := range x.Args {
		all = append(all, flat(a)...)
	}
	return all
}

// errorOf tells a rule's error by the chapter's words.
func errorOf(x api.Rule) api.Errno {
	all := flat(x)
	if len(all) > 512 {
		return api.ErrMany
	}
	for _, n := range all {
		if e := errorOfNode(n); e != api.OK {
			return e
		}
	}
	for _, n := range all {
		for i, a := range n.Args {
			if isTruth(a) != (fields[n.Kind][i] == 't') {
				return api.ErrType
			}
		}
	}
	return api.OK
}

func isTruth(x api.Rule) bool { return x.Kind >= 13 }

func errorOfNode(x api.Rule) api.Errno {
	if x.Kind < 1 || x.Kind > 21 {
		return api.ErrKind
	}
	f := fields[x.Kind]
	has := func(s string) bool { return strings.Contains(f, s) }
	args := 0
	if has("n") || has("t") {
		args = len(f)
	}
	switch {
	case !has("X") && math.Float64bits(x.X) != 0,
		has("X") && (math.IsNaN(x.X) || math.IsInf(x.X, 0)),
		!has("S") && (x.Name != "" || len(x.Labels) > 0 || x.Window != 0),
		has("S") && (x.Window < 1 || x.Window > 1<<62),
		!has("Q") && (x.Num != 0 || x.Den != 0),
		has("Q") && (x.Den < 1 || x.Num < 0 || x.Num > x.Den),
		len(x.Args) != args:
		return api.ErrArg
	}
	if has("S") {
		return label.Check(api.Desc{Kind: api.Counter, Name: x.Name, Labels: x.Labels})
	}
	return api.OK
}

// textOf tells the text of a rule that may be.
func textOf(x api.Rule) string {
	word := words[x.Kind]
	switch fields[x.Kind] {
	case "X":
		return real.Print(x.X)
	case "S":
		return fmt.Sprintf("%s(%s, %d)", word, label.Print(x.Name, x.Labels), x.Window)
	case "SQ":
		return fmt.Sprintf("%s(%d/%d, %s, %d)", word, x.Num, x.Den, label.Print(x.Name, x.Labels), x.Window)
	case "t":
		return fmt.Sprintf("%s(%s)", word, textOf(x.Args[0]))
	}
	return fmt.Sprintf("(%s %s %s)", textOf(x.Args[0]), word, textOf(x.Args[1]))
}

// same tells whether two rules are the same, node by node.
func same(a, b api.Rule) bool {
	if len(a.Args) != len(b.Args) || !slices.Equal(a.Labels, b.Labels) || !real.Same(a.X, b.X) {
		return false
	}
	for i := range a.Args {
		if !same(a.Args[i], b.Args[i]) {
			return false
		}
	}
	return a.Kind == b.Kind && a.Name == b.Name && a.Window == b.Window && a.Num == b.Num && a.Den == b.Den
}

// isZero tells whether a rule is the one beside an error.
func isZero(x api.Rule) bool { return same(x, api.Rule{}) }

// A second reader: it has a list of what must still come, and what a text is wrong in, but makes no rule.

var (
	ofDigits = regexp.MustCompile(`^[0-9]*`)
	ofFloat  = regexp.MustCompile(`^[0-9.e-]*`)
	ofWord   = regexp.MustCompile(`^[a-z]*`)
	ofSign   = regexp.MustCompile(`^[-+*/<>=!a-z]*`)
	isWhole  = regexp.MustCompile(`^(0|[1-9][0-9]*)$`)
	isQuoted = regexp.MustCompile(`(?s)"([^"\\]|\\.)*("|\\?$)`)
)

// reading is how far a text was read: what must still come, the next one last; of the rules that were read whole whether they are truths.
type reading struct {
	text         string
	at, nodes    int
	next         []string
	num          *big.Int
	signs        []int
	truths       []bool
	typesAreLost bool
}

// after lays what must come now, in this order.
func (g *reading) after(l ...string) {
	slices.Reverse(l)
	g.next = append(g.next, l...)
}

// model tells the error and the place of a text; OK and 0, if it is a rule's.
func model(text string) (api.Errno, int) {
	if len(text) > 65536 {
		return api.ErrBytes, 0
	}
	g := &reading{text: text, next: []string{"end", "rule"}}
	for len(g.next) > 0 {
		what := g.next[len(g.next)-1]
		g.next = g.next[:len(g.next)-1]
		if e, at := g.one(what); e != api.OK {
			return e, at
		}
	}
	if g.typesAreLost {
		return api.ErrType, 0
	}
	return api.OK, 0
}

// one reads what must come.
func (g *reading) one(what string) (api.Errno, int) {
	rest := g.text[g.at:]
	switch what {
	case "end":
		if rest != "" {
			return api.ErrForm, g.at
		}
	case "rule":
		return g.rule(rest)
	case "sign":
		sign := ofSign.FindString(rest)
		kind := slices.Index(words, sign)
		if kind < api.RulePlus || kind > api.RuleOr {
			return api.ErrForm, g.at
		}
		g.signs = append(g.signs, kind)
		g.at += len(sign)
	case "joined":
		last := len(g.signs) - 1
		g.apply(g.signs[last])
		g.signs = g.signs[:last]
	case "negated":
		g.apply(api.RuleNot)
	case "told":
		g.truths = append(g.truths, false)
	case "N", "D", "W":
		return g.whole(what, ofDigits.FindString(rest))
	case "S":
		return g.series(rest)
	default:
		if !strings.HasPrefix(rest, what) {
			return api.ErrForm, g.at
		}
		g.at += len(what)
	}
	return api.OK, 0
}

// rule reads the beginning of one, and lays what must come behind that.
func (g *reading) rule(rest string) (api.Errno, int) {
	if g.nodes++; g.nodes > 512 {
		return api.ErrMany, g.at
	}
	if strings.HasPrefix(rest, "(") {
		g.after("(", "rule", " ", "sign", " ", "rule", ")", "joined")
		return api.OK, 0
	}
	if word := ofWord.FindString(rest); word != "" {
		if slices.Index(words, word) < api.RuleTotal || word == "and" || word == "or" {
			return api.ErrForm, g.at
		}
		g.at += len(word)
		switch word {
		case "not":
			g.after("(", "rule", ")", "negated")
		case "quantile":
			g.after("(", "N", "/", "D", ",", " ", "S", ",", " ", "W", ")", "told")
		default:
			g.after("(", "S", ",", " ", "W", ")", "told")
		}
		return api.OK, 0
	}
	float := ofFloat.FindString(rest)
	if float == "" || float[0] == '.' {
		return api.ErrForm, g.at
	}
	if _, e := real.Parse(float); e != api.OK {
		return api.ErrForm, g.at
	}
	g.at += len(float)
	g.after("told")
	return api.OK, 0
}

// apply tells whether what was read last is of the types that a kind asks for.
func (g *reading) apply(kind int) {
	from := len(g.truths) - len(fields[kind])
	for i, is := range g.truths[from:] {
		if is != (fields[kind][i] == 't') {
			g.typesAreLost = true
		}
	}
	g.truths = append(g.truths[:from], kind >= api.RuleLess)
}

func (g *reading) whole(what, digits string) (api.Errno, int) {
	n, ok := new(big.Int).SetString(digits, 10)
	if !isWhole.MatchString(digits) || !ok || n.BitLen() > 63 {
		return api.ErrForm, g.at
	}
	switch what {
	case "N":
		g.num = n
	case "D":
		if n.Sign() == 0 || g.num.Cmp(n) > 0 {
			return api.ErrArg, g.at
		}
	case "W":
		if n.Sign() == 0 || n.Cmp(big.NewInt(far)) > 0 {
			return api.ErrArg, g.at
		}
	}
	g.at += len(digits)
	return api.OK, 0
}

func (g *reading) series(rest string) (api.Errno, int) {
	masked := isQuoted.ReplaceAllStringFunc(rest, func(s string) string { return strings.Repeat("q", len(s)) })
	s, _, _ := strings.Cut(masked, ", ")
	_, _, e, at := label.Parse(rest[:len(s)])
	if e != api.OK {
		return e, g.at + at
	}
	g.at += len(s)
	return api.OK, 0
}

// Rings, and rules worked out over them, once more.

// held is a snapshot with its time.
type held struct {
	at int64
	s  api.Snapshot
}

// rung tells a ring of these.
func rung(t *testing.T, all []held) *ring.Ring {
	t.Helper()
	r, e := ring.New(max(1, len(all)))
	if e != api.OK {
		t.Fatal(e)
	}
	for _, h := range all {
		if e := r.Push(h.at, h.s); e != api.OK {
			t.Fatalf("the test's own snapshot of %d is not taken: %v", h.at, e)
		}
	}
	return r
}

// windowOf tells the snapshots of a window as one.
func windowOf(all []held, from, to int64) (api.Snapshot, api.Errno) {
	var so *api.Snapshot
	for _, h := range all {
		if h.at <= from || h.at > to {
			continue
		}
		if so == nil {
			so = &h.s
			continue
		}
		both, e := snap.Merge(*so, h.s)
		if e != api.OK {
			return api.Snapshot{}, e
		}
		so = &both
	}
	if so == nil {
		return api.Snapshot{}, api.ErrEmpty
	}
	return *so, api.OK
}

// nearest tells the float nearest to a whole number.
func nearest(n *big.Int) float64 {
	x, _ := new(big.Rat).SetInt(n).Float64()
	return x
}

func bigOf(n api.Int) *big.Int {
	out := new(big.Int).Lsh(big.NewInt(n.Hi), 64)
	return out.Add(out, new(big.Int).SetUint64(n.Lo))
}

// worth tells what a rule that may be comes to, by the chapter's words.
func worth(all []held, now int64, x api.Rule) (api.Answer, api.Errno) {
	switch f := fields[x.Kind]; f {
	case "X":
		return api.Answer{X: x.X}, api.OK
	case "S", "SQ":
		n, e := toldOf(all, now, x)
		return api.Answer{X: n}, e
	}
	a, e := worth(all, now, x.Args[0])
	if e != api.OK {
		return api.Answer{}, e
	}
	switch x.Kind {
	case api.RuleNot:
		return api.Answer{Truth: true, Is: !a.Is}, api.OK
	case api.RuleAnd:
		if !a.Is {
			return api.Answer{Truth: true}, api.OK
		}
		return worth(all, now, x.Args[1])
	case api.RuleOr:
		if a.Is {
			return api.Answer{Truth: true, Is: true}, api.OK
		}
		return worth(all, now, x.Args[1])
	}
	b, e := worth(all, now, x.Args[1])
	if e != api.OK {
		return api.Answer{}, e
	}
	return ofTwo(x.Kind, a.X, b.X), api.OK
}

// ofTwo tells what comes of two numbers.
func ofTwo(kind int, a, b float64) api.Answer {
	if kind < api.RuleLess {
		return api.Answer{X: [...]float64{a + b, a - b, a * b, a / b}[kind-api.RulePlus]}
	}
	is := [...]bool{a < b, a <= b, a > b, a >= b, a == b, a != b}[kind-api.RuleLess]
	return api.Answer{Truth: true, Is: is}
}

// toldOf tells what is told of a series.
func toldOf(all []held, now int64, x api.Rule) (float64, api.Errno) {
	s, e := windowOf(all, now-x.Window, now)
	if e != api.OK {
		return 0, e
	}
	i := slices.IndexFunc(s.Values, func(v api.Value) bool {
		return label.Print(v.Desc.Name, v.Desc.Labels) == label.Print(x.Name, x.Labels)
	})
	if i < 0 {
		return 0, api.ErrAbsent
	}
	v := s.Values[i]
	// Of each kind of node the kinds of instruments that it asks for.
	asked := map[int]string{2: "c", 3: "c", 4: "hs", 5: "hs", 6: "s", 7: "s", 8: "h"}[x.Kind]
	if !strings.Contains(asked, " chs"[v.Desc.Kind:][:1]) {
		return 0, api.ErrKind
	}
	if v.N == 0 && x.Kind >= api.RuleLeast {
		return 0, api.ErrEmpty
	}
	switch x.Kind {
	case api.RuleTotal:
		return nearest(bigOf(v.Total)), api.OK
	case api.RuleRate:
		n, _ := new(big.Rat).Quo(new(big.Rat).SetFloat64(nearest(bigOf(v.Total))), new(big.Rat).SetFloat64(nearest(big.NewInt(x.Window)))).Float64()
		return n, api.OK
	case api.RuleCount:
		return nearest(new(big.Int).SetUint64(v.N)), api.OK
	case api.RuleSum:
		if v.Desc.Kind == api.Histogram {
			return nearest(bigOf(v.Total)), api.OK
		}
		return v.Sum, api.OK
	case api.RuleLeast:
		return v.Min, api.OK
	case api.RuleGreatest:
		return v.Max, api.OK
	}
	return nearest(big.NewInt(highOf(s.Precision, v, x.Num, x.Den))), api.OK
}

// highOf tells the greatest value of the bucket of a quantile: the first one with which as many values as it asks for have come.
func highOf(p int, v api.Value, num, den int64) int64 {
	wanted := new(big.Int).Mul(new(big.Int).SetUint64(v.N), big.NewInt(num))
	sum := new(big.Int)
	for _, c := range v.Counts {
		sum.Add(sum, new(big.Int).SetUint64(c.N))
		if new(big.Int).Mul(sum, big.NewInt(den)).Cmp(wanted) >= 0 {
			high, _ := bucket.High(p, c.Index)
			return high
		}
	}
	return -1
}

// sameAnswer tells whether two answers are the same, NaNs alike.
func sameAnswer(a, b api.Answer) bool {
	return a.Truth == b.Truth && a.Is == b.Is && real.Same(a.X, b.X)
}

// Drawn ones.

func one[T any](r *rand.Rand, l ...T) T { return l[r.Intn(len(l))] }

// someFloat tells a finite float.
func someFloat(r *rand.Rand) float64 {
	x := math.Float64frombits(r.Uint64())
	if math.IsNaN(x) || math.IsInf(x, 0) {
		x = 7
	}
	return one(r, 0, minus, 1, 2, -1, 0.5, 30, 1e20, 1e21, -1e-7, math.MaxFloat64, -math.MaxFloat64, 5e-324, x, float64(r.Intn(50)), r.NormFloat64())
}

// someText tells a label's value with what stands in texts of rules.
func someText(r *rand.Rand) string {
	var out strings.Builder
	for range r.Intn(6) {
		out.WriteString(one(r, `"`, `\`, "\n", ", ", ",", " ", "(", ")", "}", "{", "=", "n", "1", "ü", "\U0001f600", `\"`, ", 5)"))
	}
	return out.String()
}

// someSeries tells one that most often is in some ring.
func someSeries(r *rand.Rand, x api.Rule) api.Rule {
	x.Name = one(r, "a", "a", "b", "g", "h", "h", "s", "s", "t", "z", "a:b", "_x9", "Total")
	switch r.Intn(8) {
	case 0:
		x.Labels = labels("x", "1")
	case 1:
		x.Labels = labels("x", someText(r), "y", someText(r))
	case 2:
		x.Labels = labels("k", someText(r))
	}
	x.Window = one(r, 1, 5, 10, 11, 20, 25, 1000, 1000, far, far-1, 1+r.Int63n(far))
	return x
}

// someRule tells a rule that may be, of few nodes or more.
func someRule(r *rand.Rand, truth bool, size int) api.Rule {
	if truth {
		switch kind := one(r, 13, 14, 15, 16, 17, 18, 19, 20, 21); {
		case kind == api.RuleNot && size > 3:
			return not(someRule(r, true, size-1))
		case kind >= api.RuleAnd && kind != api.RuleNot && size > 6:
			return two(kind, someRule(r, true, size/2), someRule(r, true, size/2))
		default:
			return two(min(kind, api.RuleUnlike), someRule(r, false, size/2), someRule(r, false, size/2))
		}
	}
	switch kind := 1 + r.Intn(12); {
	case kind >= api.RulePlus && size > 2:
		return two(kind, someRule(r, false, size/2), someRule(r, false, size/2))
	case kind == api.RuleQuantile:
		den := one(r, 1, 2, 100, most, 1+r.Int63n(most))
		x := quantile(one(r, 0, den, 1, r.Int63n(den)), den, "", 0)
		return someSeries(r, x)
	case kind > api.RuleNumber && kind < api.RuleQuantile:
		return someSeries(r, api.Rule{Kind: kind})
	}
	return number(someFloat(r))
}

// anyRule tells a rule that may be, a truth or a number.
func anyRule(r *rand.Rand) api.Rule { return someRule(r, r.Intn(2) == 0, 1+r.Intn(30)) }

// places tells pointers to the nodes of a rule, as they are gone through.
func places(x *api.Rule) []*api.Rule {
	all := []*api.Rule{x}
	for i := range x.Args {
		all = append(all, places(&x.Args[i])...)
	}
	return all
}

// spoiled tells a rule of which something was changed, most often so that it may not be.
func spoiled(r *rand.Rand, x api.Rule) api.Rule {
	x = deep(x)
	n := one(r, places(&x)...)
	switch r.Intn(9) {
	case 0:
		n.Kind = one(r, 0, -1, 22, 99, math.MinInt, math.MaxInt, r.Intn(24))
	case 1:
		n.X = one(r, 0, minus, 1, math.NaN(), math.Inf(1), math.Inf(-1))
	case 2:
		n.Name = one(r, "", "a", "a_sum", "1", "_bucket", "a b", strings.Repeat("a", 65))
	case 3:
		n.Labels = one(r, nil, labels("x", "1"), labels("le", "1"), labels("x", "\xff"), labels("x", "", "x", ""), labels("y", "", "x", ""), labels("x", strings.Repeat("v", 1025)))
	case 4:
		n.Window = one(r, 0, -1, 1, far, far+1, most, math.MinInt64)
	case 5:
		n.Num = one(r, 0, -1, 1, most, math.MinInt64)
	case 6:
		n.Den = one(r, 0, -1, 1, most, math.MinInt64)
	case 7:
		n.Args = one(r, nil, n.Args[:len(n.Args)/2], append(deep(*n).Args, number(1)), []api.Rule{yes()}, []api.Rule{number(1), number(2)}, []api.Rule{yes(), no()})
	case 8:
		*n = anyRule(r)
	}
	return x
}

// deep tells a rule with lists of its own.
func deep(x api.Rule) api.Rule {
	x.Labels = append([]api.Label(nil), x.Labels...)
	x.Args = append([]api.Rule(nil), x.Args...)
	for i := range x.Args {
		x.Args[i] = deep(x.Args[i])
	}
	return x
}

// disturb tells a text with few changes.
func disturb(r *rand.Rand, s string) string {
	for range 1 + r.Intn(2) {
		at := r.Intn(len(s) + 1)
		to := at + r.Intn(min(3, len(s)-at+1))
		odd := one(r, "", "", "(", ")", " ", ", ", ",", `"`, `\`, "0", "9", "-", "e", ".", "/", "<", "=", "and", "not", "not(", "total(", "1", "x", "A", "\n", "\xff", "_sum", "4611686018427387905", "9223372036854775808", string([]byte{byte(r.Intn(256))}))
		s = s[:at] + odd + s[to:]
	}
	return s
}

// someHeld tells snapshots of rising times, in which a and b are counters, g and h histograms, s and t summaries; those of which little can be told are g and t.
func someHeld(r *rand.Rand) []held {
	var all []held
	at := one(r, 0, -20, 5, -far, far-40, int64(r.Intn(40)))
	for range r.Intn(5) {
		at += 1 + int64(r.Intn(10))
		s := api.Snapshot{Precision: 3, Refused: uint64(r.Intn(3))}
		for _, name := range []string{"a", "b", "g", "h", "s", "t"} {
			for _, l := range [][]api.Label{nil, labels("x", "1")} {
				if r.Intn(6) > 0 {
					s.Values = append(s.Values, someValue(r, name, l))
				}
			}
		}
		all = append(all, held{at, s})
	}
	return all
}

func someValue(r *rand.Rand, name string, l []api.Label) api.Value {
	v := api.Value{Desc: api.Desc{Kind: api.Counter + strings.Index("abghst", name)/2, Name: name, Labels: l}}
	switch name {
	case "a", "b":
		v.Total = one(r, api.Int{}, api.Int{Lo: uint64(r.Intn(100))}, api.Int{Hi: r.Int63() >> 1, Lo: r.Uint64()})
	case "h":
		for _, i := range []int{0, 1, 5, 7} {
			if n := uint64(r.Intn(3)); n > 0 {
				v.Counts = append(v.Counts, api.Count{Index: i, N: n})
				v.N += n
				v.Total.Lo += uint64(i) * n
			}
		}
	case "s":
		if v.N = uint64(r.Intn(3)); v.N > 0 {
			v.Sum, v.Min, v.Max = one(r, 1, 4, minus, 0x1p1023, r.NormFloat64()), one(r, -1, minus, -r.ExpFloat64()), one(r, 1, 0, r.ExpFloat64())
		}
	}
	return v
}
