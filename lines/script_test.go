package lines_test

import (
	"fmt"
	"math/rand"
	"slices"
	"strings"
	"sync"
	"testing"

	"gnomon/lines"
)

// P24.3 and P24.5: Run of texts that are drawn, against the second answer.

// pool has what the parts of drawn commands are drawn of: right ones, and wrong ones, which come more rarely.
type pool struct{ right, wrong []string }

func (p pool) draw(r *rand.Rand) string {
	if r.Intn(5) == 0 {
		return draws(r, p.wrong)
	}
	return draws(r, p.right)
}

// manyLabels tells the text of a series that has so many labels.
func manyLabels(n int) string {
	var l []string
	for i := range n {
		l = append(l, fmt.Sprintf(`l%02d="%d"`, i, i))
	}
	return "c{" + strings.Join(l, ",") + "}"
}

var wrongSeries = []string{"", "1", "c{", `c{a="1"`, "c_sum", `c{b="1",a="2"}`, `c{a="1",a="1"}`, "c\n", "\xff", "c{a=\"\xff\"}", `c{a="` + strings.Repeat("v", 1025) + `"}`, manyLabels(17), `c{a="1"} `}

// seriesOf has those of an instrument's kind; they are asked for by the others' commands too.
func seriesOf(names string) pool {
	p := pool{wrong: wrongSeries}
	for _, name := range strings.Fields(names) {
		p.right = append(p.right, name, name, name+`{a="1"}`, name+`{a="`+"é\\n\\\\"+`"}`, name+`{a="1",b="\""}`)
	}
	return p
}

var (
	counters   = seriesOf("c d")
	histograms = seriesOf("h")
	summaries  = seriesOf("s")
	anySeries  = pool{right: slices.Concat(counters.right, histograms.right, summaries.right, []string{"never"}), wrong: wrongSeries}
	helps      = pool{right: []string{"", "", "", "", "", "of all", "\n\\"}, wrong: []string{"other", "\xff", strings.Repeat("h", 1025), "\x00"}}
	someRules  = pool{
		right: []string{
			"(total(c, 9) > 4)", "(total(d, 20) >= 1)", "(rate(c, 10) > 0.5)", "(count(h, 9) == 1)", "(sum(s, 20) < 3)", "not((least(s, 9) < 0))", "((1 < 2) and (greatest(s, 30) > 1))", "(quantile(1/2, h, 50) <= 9)",
			"(1 < 2)", "(2 < 1)", `(total(c{a="1"}, 99) > 0)`, "((1 < 2) or (total(never, 5) > 1))",
		},
		wrong: []string{
			"", "(1 +", "(1 and 2)", "1 +", "(total(c, 0) < 1)", "(total(c_sum, 1) < 1)", `(total(c{b="1",a="2"}, 1) < 1)`, `(total(c{a="1",a="1"}, 1) < 1)`, "(total(c{a=\"\xff\"}, 1) < 1)", `(total(c{a="` + strings.Repeat("v", 1025) + `"}, 1) < 1)`,
			strings.Repeat("not(", 510) + "(1 < 2)" + strings.Repeat(")", 510), "(quantile(3/2, h, 5) < 1)",
		},
	}
	// Numbers, too: no alarm may have such a rule.
	anyRule = pool{right: slices.Concat(someRules.right, []string{"total(c, 9)", "rate(d, 20)", "total(h, 20)", "count(s, 9)", "(sum(s, 9) / count(s, 9))", "least(s, 20)", "quantile(9/10, h, 30)", "-0", "(0 / 0)", "(1 / 0)", "total(never, 9)"}), wrong: someRules.wrong}
	names   = pool{right: []string{"x", "y", "z", "a:b", "high_load"}, wrong: []string{"", "1", "x_sum", "é", "\"", "x y"}}
	pages   = pool{
		right: []string{"# gnomon 3\n# refused 2\n", "# gnomon 1\n# refused 0\n# HELP a all\n# TYPE a counter\na 7\na{x=\"1\"} 0\n", "# gnomon 2\n# refused 0\n# HELP h \n# TYPE h histogram\nh_bucket{le=\"9\"} 1\nh_bucket{le=\"+Inf\"} 1\nh_sum 9\nh_count 1\n"},
		wrong: []string{
			"", "x", "# gnomon 3", "# gnomon 3\n", "# gnomon 3\n# refused 0\n# HELP a \n# TYPE a counter\na -7\n", "# gnomon 3\n# refused 0\n# HELP a \n# TYPE a counter\na{x=\"1\"} 0\na 0\n", "# gnomon 3\n# refused 0\n# HELP a \n# TYPE a counter\na 0\na 0\n",
			"# gnomon 3\n# refused 0\n# HELP a \xff\n# TYPE a counter\na 0\n", "# gnomon 3\n# refused 0\n# HELP a " + strings.Repeat("h", 1025) + "\n# TYPE a counter\na 0\n",
		},
	}
)

// writer draws the lines of a text.
type writer struct {
	r   *rand.Rand
	now int64 // goes on as the lines do
}

// time draws one that is near, or one that is not.
func (w *writer) time() int64 {
	if w.r.Intn(12) == 0 {
		return draws(w.r, oddNumbers)
	}
	return w.now + w.r.Int63n(40) - 30
}

// small draws a number, of a handle or an instrument as a rule.
func (w *writer) small(from, to int64) int64 {
	if w.r.Intn(12) == 0 {
		return draws(w.r, oddNumbers)
	}
	return from + w.r.Int63n(to-from)
}

// float draws one that may be recorded, as a rule.
func (w *writer) float() float64 {
	if w.r.Intn(4) == 0 {
		return someFloat(w.r)
	}
	return float64(w.r.Intn(100)-20) / 10
}

// command draws one.
func (w *writer) command() lines.Command {
	r := w.r
	n := func(l ...int64) []int64 { return l }
	s := func(l ...string) []string { return l }
	switch kind := draws(r, []int{2, 2, 3, 4, 5, 5, 6, 7, 7, 7, 7, 8, 8, 8, 9, 9, 9, 10, 10, 10, 11, 12, 13, 14, 14, 15, 15, 15, 16, 17, 18, 18, 18, 19, 20}); kind {
	case lines.Counter:
		return lines.Command{Kind: kind, S: s(counters.draw(r), helps.draw(r))}
	case lines.Histogram:
		return lines.Command{Kind: kind, S: s(histograms.draw(r), helps.draw(r))}
	case lines.Summary:
		return lines.Command{Kind: kind, S: s(summaries.draw(r), helps.draw(r))}
	case lines.Release:
		return lines.Command{Kind: kind, N: n(w.small(0, 5))}
	case lines.Add, lines.Observe:
		return lines.Command{Kind: kind, N: n(w.small(1, 5), w.small(0, 6), w.small(-1, 30))}
	case lines.Sample:
		return lines.Command{Kind: kind, N: n(w.small(1, 5), w.small(0, 6)), X: []float64{w.float()}}
	case lines.Reset, lines.Step:
		if r.Intn(6) > 0 {
			w.now += 1 + r.Int63n(5)
			return lines.Command{Kind: kind, N: n(w.now)}
		}
		return lines.Command{Kind: kind, N: n(w.time())}
	case lines.Window:
		return lines.Command{Kind: kind, N: n(w.time(), w.time())}
	case lines.Rate:
		return lines.Command{Kind: kind, S: s(anySeries.draw(r)), N: n(w.time(), w.time())}
	case lines.Quantile:
		return lines.Command{Kind: kind, S: s(anySeries.draw(r)), N: n(w.small(0, 5), w.small(1, 6), w.time(), w.time())}
	case lines.Eval:
		return lines.Command{Kind: kind, S: s(anyRule.draw(r)), N: n(w.time())}
	case lines.Alarm:
		spec := lines.Command{Kind: kind, S: s(draws(r, names.right), draws(r, someRules.right)), N: n(r.Int63n(6), r.Int63n(6))}
		switch r.Intn(30) {
		case 0:
			spec.S[0] = draws(r, names.wrong)
		case 1:
			spec.S[1] = anyRule.draw(r)
		case 2:
			spec.N[r.Intn(2)] = draws(r, oddNumbers)
		}
		return spec
	case lines.Load:
		return lines.Command{Kind: kind, S: s(pages.draw(r))}
	default:
		return lines.Command{Kind: kind}
	}
}

// make draws one, which has room for most of what comes, as a rule.
func (w *writer) make() lines.Command {
	r := w.r
	n := []int64{1 + r.Int63n(4), 1 + r.Int63n(3), 3000 + r.Int63n(20000), 1 + r.Int63n(6)}
	switch r.Intn(8) {
	case 0:
		n[r.Intn(4)] = draws(r, oddNumbers)
	case 1:
		n[2] = r.Int63n(100)
	}
	return lines.Command{Kind: lines.Make, N: n}
}

// line draws a line.
func (w *writer) line() string {
	switch w.r.Intn(60) {
	case 0:
		return ""
	case 1:
		return "#" + lineOf(w.command())
	case 2:
		return spoiled(w.r, lineOf(w.command()))
	case 3:
		return lineOf(w.make())
	}
	return lineOf(w.command())
}

// text draws a whole one.
func (w *writer) text() string {
	var out strings.Builder
	for range w.r.Intn(3) {
		out.WriteString(w.line() + "\n")
	}
	out.WriteString(lineOf(w.make()) + "\n")
	for range 100 {
		out.WriteString(w.line() + "\n")
	}
	text := out.String()
	if w.r.Intn(2) == 0 {
		text = strings.TrimSuffix(text, "\n")
	}
	return text
}

// classOf tells of which sort the answer to a line is: the line's word, and ok, or the error, with the word `at`, if a place is told.
func classOf(line, answer string) string {
	word, _, _ := strings.Cut(line, " ")
	f := strings.Fields(answer)
	switch {
	case f[0] == "ok":
		return word + " ok"
	case len(f) > 2:
		return word + " " + f[1] + " at"
	}
	return word + " " + f[1]
}

// wanted are the sorts of answers that must have come: of each word what may be told, but for a few that only tests of their own come to.
var wanted = map[string]string{
	"make":      "ok, 1",
	"counter":   "ok, 8, 4, 11, 12, 13, 3 at, 4 at, 5 at, 9 at, 10 at, 11 at, 15 at",
	"histogram": "ok, 8, 4, 11, 12, 13, 3 at, 4 at, 5 at, 9 at, 10 at, 11 at, 15 at",
	"summary":   "ok, 8, 4, 11, 12, 13, 3 at, 4 at, 5 at, 9 at, 10 at, 11 at, 15 at",
	"recorder":  "ok, 8, 14",
	"release":   "ok, 6, 8",
	"add":       "ok, 2, 6, 7, 8",
	"observe":   "ok, 2, 6, 7, 8",
	"sample":    "ok, 2, 6, 7, 8",
	"reset":     "ok, 8, 15",
	"text":      "ok, 8",
	"window":    "ok, 8, 16",
	"rate":      "ok, 1, 6, 7, 8, 16, 3 at, 4 at, 5 at, 9 at, 10 at, 11 at, 15 at",
	"quantile":  "ok, 1, 6, 7, 8, 16, 3 at, 4 at, 5 at, 9 at, 10 at, 11 at, 15 at",
	"eval":      "ok, 2, 6, 7, 8, 16, 1 at, 3 at, 4 at, 5 at, 9 at, 10 at, 11 at, 15 at, 17 at",
	"alarm":     "ok, 8",
	"board":     "ok, 8, 1 at, 5 at, 9 at, 10 at, 17 at",
	"step":      "ok, 2, 8, 15",
	"status":    "ok, 8",
	"load":      "ok, 8, 2 at, 4 at, 5 at, 10 at, 11 at, 15 at",
}

// hasAnswer tells whether a line has one.
func hasAnswer(line string) bool { return line != "" && line[0] != '#' }

func TestRunOfManyTexts(t *testing.T) {
	seen := map[string]int{}
	turned := 0
	for seed := range int64(2500) {
		w := &writer{r: rand.New(rand.NewSource(seed)), now: seed % 50}
		text := w.text()
		answers := wantsAsAnswered(t, text)
		for line := range strings.SplitSeq(text, "\n") {
			if !hasAnswer(line) {
				continue
			}
			seen[classOf(line, answers[0])]++
			if strings.HasPrefix(line, "step") && strings.Contains(answers[0], `"`) {
				turned++
			}
			answers = answers[1:]
		}
		if t.Failed() {
			return
		}
	}
	for word, classes := range wanted {
		for class := range strings.SplitSeq(classes, ", ") {
			if seen[word+" "+class] == 0 {
				t.Errorf("no %s was answered %s", word, class)
			}
		}
	}
	if turned < 500 {
		t.Errorf("only %d steps told a change", turned)
	}
}

// TestRunOfATextInTwoParts: what Run of the first part tells stands ahead of what it tells of the rest, wherever the text is cut behind a line feed.
func TestRunOfATextInTwoParts(t *testing.T) {
	for seed := range int64(60) {
		w := &writer{r: rand.New(rand.NewSource(2450 + seed)), now: 5}
		text := w.text()
		all := lines.Run(text)
		told, ahead := 0, ""
		for at := strings.IndexByte(text, '\n') + 1; at > 0 && at <= len(text); {
			first := lines.Run(text[:at])
			if !strings.HasPrefix(all, first) || !strings.HasPrefix(first, ahead) {
				t.Fatalf("Run(%q) does not begin with Run of its first %d bytes:\n%s\n%s", text, at, all, first)
			}
			// One answer a line, and each in a line.
			if n := strings.Count(first, "\n"); n != told && n != told+1 {
				t.Fatalf("%d answers behind %d", n, told)
			}
			told, ahead = strings.Count(first, "\n"), first
			next := strings.IndexByte(text[at:], '\n') + 1
			if next == 0 {
				break
			}
			at += next
		}
	}
	// A text that begins all anew tells behind another one what it tells by itself.
	for seed := range int64(200) {
		w := &writer{r: rand.New(rand.NewSource(2460 + seed)), now: 5}
		first := w.text() + "\n"
		second := "make 2 2 9000 3\n" + w.text()
		if got, want := lines.Run(first+second), lines.Run(first)+lines.Run(second); got != want {
			t.Fatalf("Run(%q):\n%s\nnot\n%s", first+second, got, want)
		}
	}
}

// TestRunKeepsNothing: each Run begins by itself, at one time with others too.
func TestRunKeepsNothing(t *testing.T) {
	w := &writer{r: rand.New(rand.NewSource(247)), now: 5}
	texts := []string{"recorder", begun, full, "text\nstatus"}
	var want []string
	for range 8 {
		texts = append(texts, w.text())
	}
	for _, text := range texts {
		want = append(want, lines.Run(text))
	}
	var wait sync.WaitGroup
	for k := range 8 {
		wait.Go(func() {
			for i := range texts {
				i = (i + k) % len(texts)
				if got := lines.Run(texts[i]); got != want[i] {
					t.Errorf("Run(%.300q) tells something else then: %.300q", texts[i], got)
				}
			}
		})
	}
	wait.Wait()
}

// FuzzRun: whatever a text is, Run ends, and tells what the second answer does.
func FuzzRun(f *testing.F) {
	f.Add(full + "status\nwindow 0 100\ntext\n")
	for seed := range int64(5) {
		w := &writer{r: rand.New(rand.NewSource(seed))}
		f.Add(w.text())
	}
	f.Fuzz(func(t *testing.T, text string) { wantsAsAnswered(t, text) })
}

// FuzzParse: whatever a line is, Parse tells what the second one does.
func FuzzParse(f *testing.F) {
	for line := range eachKind() {
		f.Add(line)
	}
	f.Fuzz(func(t *testing.T, line string) { wantsAsRead(t, line) })
}
