package lines_test

import (
	"fmt"
	"math"
	"math/big"
	"math/rand"
	"regexp"
	"slices"
	"strings"
	"testing"

	"gnomon/alarm"
	"gnomon/api"
	"gnomon/expo"
	"gnomon/label"
	"gnomon/lines"
	"gnomon/real"
	"gnomon/ring"
	"gnomon/rules"
	"gnomon/snap"
	"gnomon/telem"
)

// The chapter's words once more: its table, a second way to write lines and to read them, and a second answer.

// row is a row of the chapter's table.
type row struct {
	kind        int
	word, parts string
}

var table = []row{
	{1, "make", "nnnn"}, {2, "counter", "ss"}, {3, "histogram", "ss"}, {4, "summary", "ss"}, {5, "recorder", ""}, {6, "release", "n"}, {7, "add", "nnn"},
	{8, "observe", "nnn"}, {9, "sample", "nnx"}, {10, "reset", "n"}, {11, "text", ""}, {12, "window", "nn"}, {13, "rate", "snn"}, {14, "quantile", "snnnn"},
	{15, "eval", "ns"}, {16, "alarm", "snns"}, {17, "board", ""}, {18, "step", "n"}, {19, "status", ""}, {20, "load", "s"},
}

// count tells how many parts of a sort a row has.
func (r row) count(part string) int { return strings.Count(r.parts, part) }

// quote writes a text.
func quote(s string) string {
	var out strings.Builder
	for _, c := range []byte(s) {
		switch {
		case c == '"' || c == '\\':
			out.Write([]byte{'\\', c})
		case c < 0x20 || c > 0x7e:
			fmt.Fprintf(&out, `\x%02x`, c)
		default:
			out.WriteByte(c)
		}
	}
	return `"` + out.String() + `"`
}

// lineOf writes the line of a command that may be.
func lineOf(c lines.Command) string {
	r := table[c.Kind-1]
	line := r.word
	n, x, s := c.N, c.X, c.S
	for _, part := range r.parts {
		switch part {
		case 'n':
			line, n = line+fmt.Sprint(" ", n[0]), n[1:]
		case 'x':
			line, x = line+" "+real.Print(x[0]), x[1:]
		case 's':
			line, s = line+" "+quote(s[0]), s[1:]
		}
	}
	return line
}

var (
	smallRow  = regexp.MustCompile(`^[a-z]*`)
	numberRow = regexp.MustCompile(`^[-0-9]*`)
	aNumber   = regexp.MustCompile(`^(0|-?[1-9][0-9]*)$`)
	floatRow  = regexp.MustCompile(`^[a-zA-Z0-9+.-]*`)
	// What stands in a text, as far as it is right.
	textRow = regexp.MustCompile(`^"([ !#-\[\]-~]|\\["\\]|\\x([01][0-9a-f]|7f|[89a-f][0-9a-f]))*`)
	inText  = regexp.MustCompile(`\\x..|\\.|.`)
)

// readNumber tells a number's text; false, if it is none.
func readNumber(text string) (int64, bool) {
	n, _ := new(big.Int).SetString(text, 10)
	if !aNumber.MatchString(text) || !n.IsInt64() {
		return 0, false
	}
	return n.Int64(), true
}

// readText tells what a text's inner says, if that is right.
func readText(inner string) string {
	return inText.ReplaceAllStringFunc(inner, func(s string) string {
		if len(s) < 4 {
			return s[len(s)-1:]
		}
		var c byte
		fmt.Sscanf(s, `\x%x`, &c)
		return string([]byte{c})
	})
}

// wrongAt tells that a line is none, and the place.
func wrongAt(at int) (lines.Command, api.Errno, int) { return lines.Command{}, api.ErrForm, at }

// read is a second Parse: it goes through a line by patterns.
func read(line string) (lines.Command, api.Errno, int) {
	if len(line) > 65536 {
		return lines.Command{}, api.ErrBytes, 65536
	}
	word := smallRow.FindString(line)
	i := slices.IndexFunc(table, func(r row) bool { return r.word == word })
	if i < 0 {
		return wrongAt(0)
	}
	c := lines.Command{Kind: table[i].kind}
	at := len(word)
	for _, part := range table[i].parts {
		if !strings.HasPrefix(line[at:], " ") {
			return wrongAt(at)
		}
		at++
		switch part {
		case 'n':
			text := numberRow.FindString(line[at:])
			n, is := readNumber(text)
			if !is {
				return wrongAt(at)
			}
			c.N, at = append(c.N, n), at+len(text)
		case 'x':
			text := floatRow.FindString(line[at:])
			x, e := real.Parse(text)
			if e != api.OK {
				return wrongAt(at)
			}
			c.X, at = append(c.X, x), at+len(text)
		case 's':
			text := textRow.FindString(line[at:])
			if at += len(text); text == "" || !strings.HasPrefix(line[at:], `"`) {
				return wrongAt(at)
			}
			c.S, at = append(c.S, readText(text[1:])), at+1
		}
	}
	if at < len(line) {
		return wrongAt(at)
	}
	return c, api.OK, 0
}

// same tells whether two commands are the same; NaNs are alike, lists without elements too.
func same(a, b lines.Command) bool {
	return a.Kind == b.Kind && slices.Equal(a.N, b.N) && slices.EqualFunc(a.X, b.X, real.Same) && slices.Equal(a.S, b.S)
}

// model is a second answer.
type model struct {
	made  bool
	telem *telem.Telem
	ring  *ring.Ring
	board *alarm.Board
	specs []alarm.Spec
}

// answers tells those to a text, line by line.
func (m *model) answers(text string) []string {
	var all []string
	for line := range strings.SplitSeq(text, "\n") {
		if line == "" || strings.HasPrefix(line, "#") {
			continue
		}
		c, e, at := read(line)
		switch {
		case e != api.OK:
			all = append(all, fmt.Sprintf("error %d at %d", int(e), at))
		case !m.made && c.Kind != lines.Make:
			all = append(all, "error 8")
		default:
			all = append(all, m.answer(c))
		}
	}
	return all
}

// answer tells that to a command.
func (m *model) answer(c lines.Command) string {
	n := func(i int) int64 { return c.N[i] }
	id := func(i int) int { return int(c.N[i]) }
	switch c.Kind {
	case lines.Make:
		t, e := telem.New(api.Config{Stripes: id(0), Precision: id(1), Cells: id(2)})
		r, f := ring.New(id(3))
		if e == api.OK {
			e = f
		}
		if e != api.OK {
			return plain(e)
		}
		b, _, _ := alarm.New([]alarm.Spec{})
		*m = model{made: true, telem: t, ring: r, board: b}
		return "ok"
	case lines.Counter, lines.Histogram, lines.Summary:
		kind := map[int]int{lines.Counter: api.Counter, lines.Histogram: api.Histogram, lines.Summary: api.Summary}[c.Kind]
		return m.series(c, func(name string, l []api.Label) string {
			id, e := m.telem.Register(api.Desc{Kind: kind, Name: name, Help: c.S[1], Labels: l})
			return plain(e, id)
		})
	case lines.Recorder:
		h, e := m.telem.Recorder()
		return plain(e, h)
	case lines.Release:
		return plain(m.telem.Release(id(0)))
	case lines.Add:
		return plain(m.telem.Add(id(0), id(1), n(2)))
	case lines.Observe:
		return plain(m.telem.Observe(id(0), id(1), n(2)))
	case lines.Sample:
		return plain(m.telem.Sample(id(0), id(1), c.X[0]))
	case lines.Reset:
		s := m.telem.Reset()
		return plain(m.ring.Push(n(0), s), s.Refused)
	case lines.Text:
		b, e := m.telem.Text()
		return plain(e, quote(string(b)))
	}
	return m.question(c)
}

// question tells the answer to a command of the ring or the board.
func (m *model) question(c lines.Command) string {
	n := func(i int) int64 { return c.N[i] }
	switch c.Kind {
	case lines.Window:
		s, k, e := m.ring.Window(n(0), n(1))
		if e != api.OK {
			return plain(e)
		}
		b, e := expo.Write(s)
		return plain(e, k, quote(string(b)))
	case lines.Rate:
		return m.series(c, func(name string, l []api.Label) string {
			x, e := m.ring.Rate(name, l, n(0), n(1))
			return plain(e, real.Print(x))
		})
	case lines.Quantile:
		return m.series(c, func(name string, l []api.Label) string {
			s, _, e := m.ring.Window(n(2), n(3))
			if e != api.OK {
				return plain(e)
			}
			v, e := snap.Quantile(s, name, l, n(0), n(1))
			return plain(e, v)
		})
	case lines.Eval:
		x, e, at := rules.Parse(c.S[0])
		if e != api.OK {
			return placed(e, at)
		}
		a, e := rules.Eval(m.ring, n(0), x)
		if a.Truth {
			return plain(e, a.Is)
		}
		return plain(e, real.Print(a.X))
	case lines.Alarm:
		if len(m.specs) >= 64 {
			return "error 3"
		}
		m.specs = append(m.specs, alarm.Spec{Name: c.S[0], For: n(0), Keep: n(1), Rule: c.S[1]})
		return "ok"
	case lines.Board:
		b, e, at := alarm.New(m.specs)
		if e == api.OK {
			m.board = b
		}
		return placed(e, at)
	case lines.Step:
		l, e := m.board.Step(m.ring, n(0))
		var told []any
		for _, x := range l {
			told = append(told, quote(x.Name), x.From, x.To)
		}
		return plain(e, told...)
	case lines.Status:
		var told []any
		for _, x := range m.board.Status() {
			told = append(told, quote(x.Name), x.State, x.Since, int(x.E))
		}
		return plain(api.OK, told...)
	case lines.Load:
		s, e, line := m.telem.Load([]byte(c.S[0]))
		return placed(e, line, len(s.Values))
	}
	return "no command"
}

// series tells the answer to a command that names a series first.
func (m *model) series(c lines.Command, then func(name string, l []api.Label) string) string {
	name, l, e, at := label.Parse(c.S[0])
	if e != api.OK {
		return placed(e, at)
	}
	return then(name, l)
}

// plain tells an answer: of an error its number alone.
func plain(e api.Errno, told ...any) string {
	if e != api.OK {
		return fmt.Sprintf("error %d", int(e))
	}
	answer := "ok"
	for _, x := range told {
		answer += fmt.Sprintf(" %v", x)
	}
	return answer
}

// placed tells an answer: of an error its place, too.
func placed(e api.Errno, at int, told ...any) string {
	if e != api.OK {
		return fmt.Sprintf("error %d at %d", int(e), at)
	}
	return plain(e, told...)
}

// Things that are drawn.

func draws[T any](r *rand.Rand, l []T) T { return l[r.Intn(len(l))] }

var oddNumbers = []int64{0, 1, -1, 9, 10, -10, math.MaxInt64, math.MinInt64, math.MinInt64 + 1, 1 << 62, -1 << 62, 1 << 32, 1<<32 + 1}

var oddFloats = []float64{0, math.Copysign(0, -1), math.NaN(), math.Float64frombits(0xfff8000000000123), math.Inf(1), math.Inf(-1), 1, -1.5, 0.1, 1e21, 1e-7, 5e-324, math.MaxFloat64, -math.MaxFloat64, 1 << 53, 0x1p960}

func someNumber(r *rand.Rand) int64 {
	if r.Intn(3) == 0 {
		return draws(r, oddNumbers)
	}
	return int64(r.Uint64()) >> r.Intn(64)
}

func someFloat(r *rand.Rand) float64 {
	if r.Intn(3) == 0 {
		return draws(r, oddFloats)
	}
	return math.Float64frombits(r.Uint64())
}

// someText draws a text of any bytes.
func someText(r *rand.Rand) string {
	b := make([]byte, r.Intn(12))
	for i := range b {
		b[i] = byte(r.Intn(256))
		if r.Intn(2) == 0 {
			b[i] = draws(r, []byte("\"\\x09afAF \n\t\r~\x7f\x1f\x80\xff\xc3\xa9n"))
		}
	}
	return string(b)
}

// someCommand draws a command that may be.
func someCommand(r *rand.Rand) lines.Command {
	k := draws(r, table)
	c := lines.Command{Kind: k.kind}
	for range k.count("n") {
		c.N = append(c.N, someNumber(r))
	}
	for range k.count("x") {
		c.X = append(c.X, someFloat(r))
	}
	for range k.count("s") {
		c.S = append(c.S, someText(r))
	}
	return c
}

// spoiled draws a line that is another one in a few bytes.
func spoiled(r *rand.Rand, line string) string {
	b := []byte(line)
	for range 1 + r.Intn(2) {
		i := r.Intn(len(b) + 1)
		c := draws(r, []byte("0123456789abcdefnrtux\"\"\\\\  --+.eNIXA#\n\r\t\x00\x1f\x7f\x80\xc3\xa9\xff"))
		switch r.Intn(4) {
		case 0:
			b = slices.Insert(b, i, c)
		case 1:
			b = append(b[:i], b[min(len(b), i+1):]...)
		case 2:
			b = b[:i]
		default:
			if i < len(b) {
				b[i] = c
			}
		}
	}
	return string(b)
}

// brief tells a thing's beginning.
func brief(x any) string { return fmt.Sprintf("%.200s", fmt.Sprintf("%+v", x)) }

func wantsPrint(t *testing.T, c lines.Command, want string, e api.Errno) {
	t.Helper()
	if line, f := lines.Print(c); line != want || f != e {
		t.Errorf("Print(%s): %.200q, %v, want %.200q, %v", brief(c), line, f, want, e)
	}
}

func wantsParse(t *testing.T, line string, want lines.Command) {
	t.Helper()
	if c, e, at := lines.Parse(line); !same(c, want) || e != api.OK || at != 0 {
		t.Errorf("Parse(%.200q): %s, %v, %d, want %s", line, brief(c), e, at, brief(want))
	}
}

// wantsNone parses a line that is none: with the error every other result but the place is zero.
func wantsNone(t *testing.T, line string, e api.Errno, at int) {
	t.Helper()
	if c, f, i := lines.Parse(line); c.Kind != 0 || len(c.N)+len(c.X)+len(c.S) > 0 || f != e || i != at {
		t.Errorf("Parse(%.200q): %s, %v at %d, want %v at %d", line, brief(c), f, i, e, at)
	}
}

// wantsAsRead holds Parse of a line against the second one, and tells whether it is a line.
func wantsAsRead(t *testing.T, line string) bool {
	t.Helper()
	want, e, at := read(line)
	if e != api.OK {
		wantsNone(t, line, e, at)
		return false
	}
	wantsParse(t, line, want)
	wantsPrint(t, want, line, api.OK)
	return true
}

// wantsRun holds all answers to a text against those that are wanted.
func wantsRun(t *testing.T, text string, want ...string) {
	t.Helper()
	told := ""
	for _, line := range want {
		told += line + "\n"
	}
	got := lines.Run(text)
	if got == told {
		return
	}
	// The first answer that is another one says the most.
	is, wants := strings.Split(got, "\n"), strings.Split(told, "\n")
	i := 0
	for i < min(len(is), len(wants)) && is[i] == wants[i] {
		i++
	}
	t.Errorf("Run(%.2000q), the answer %d: %.500s\nwant %.500s", text, i, append(is, "none")[i], append(wants, "none")[i])
}

// wantsAsAnswered holds all answers to a text against the second ones, and tells these.
func wantsAsAnswered(t *testing.T, text string) []string {
	t.Helper()
	var m model
	want := m.answers(text)
	wantsRun(t, text, want...)
	return want
}
