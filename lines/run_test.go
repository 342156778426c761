package lines_test

import (
	"fmt"
	"math"
	"strings"
	"testing"

	"gnomon/api"
	"gnomon/lines"
)

// P24.3: Run, by answers that are written here.

// begun is what most texts here begin with; its answers are those of begunOK.
const begun = "make 2 2 10000 4\ncounter \"c\" \"\"\nrecorder\nadd 1 0 5\n"

func begunOK(more ...string) []string {
	return append([]string{"ok", "ok 0", "ok 1", "ok"}, more...)
}

// wantsBehind holds the answers to what stands behind the beginning.
func wantsBehind(t *testing.T, text string, want ...string) {
	t.Helper()
	wantsRun(t, begun+text, begunOK(want...)...)
	wantsAsAnswered(t, begun+text)
}

func TestRunExamples(t *testing.T) {
	wantsRun(t, "recorder\nmake 2 2 1000 4\ncounter \"c\" \"\"\nrecorder\nadd 1 0 5\n# x\n\nreset 10\nadd 9 0 1\nadd 1\n", "error 8", "ok", "ok 0", "ok 1", "ok", "ok 0", "error 6", "error 5 at 5")
	wantsBehind(t, `reset 10
rate "c" 0 10
rate "c{" 0 10
eval 12 "(total(c, 5) > 4)"
eval 12 "total(c, 5)"
alarm "x" 0 0 "(total(c, 5) > 4)"
board
step 12
status
reset 10
window 0 10
load "x"`, "ok 0", "ok 0.5", "error 9 at 2", "ok true", "ok 5", "ok", "ok", `ok "x" 1 3`, `ok "x" 3 12 0`, "error 15", `ok 1 "# gnomon 2\x0a# refused 0\x0a# HELP c \x0a# TYPE c counter\x0ac 5\x0a"`, "error 5 at 1")
}

func TestRunOfLinesThatHaveNoAnswer(t *testing.T) {
	for _, text := range []string{"", "\n", "\n\n\n", "#", "# x", "#\n", "#make 1 1 1 1", "# \xff\n\n#\"\n", "#" + strings.Repeat("x", 70000), strings.Repeat("\n", 70000)} {
		wantsRun(t, text)
		// Nor have they one among others, and they change nothing.
		wantsBehind(t, text+"\nadd 1 0 1\n"+text+"\nreset 1\n"+text, "ok", "ok 0")
	}
	// A line of which the first byte is another one has an answer.
	for _, text := range []string{" ", " #", "\r", "\t", "\x00", "\x00#", "\"#\"", "\v", "\f", "\u00a0", "\u2028"} {
		wantsRun(t, text, "error 5 at 0")
		wantsRun(t, text+"\n"+text, "error 5 at 0", "error 5 at 0")
	}
	wantsBehind(t, "text \ntext#\ntext\r\nadd 1 0 5 # x", "error 5 at 4", "error 5 at 4", "error 5 at 4", "error 5 at 9")
}

func TestRunOfALastLine(t *testing.T) {
	// What stands behind the last line feed is a line, too.
	wantsRun(t, "make 1 1 1 1", "ok")
	wantsRun(t, "make 1 1 1 1\n", "ok")
	wantsRun(t, "\nmake 1 1 1 1\n\nmake 1 1 1 1", "ok", "ok")
	wantsRun(t, "fly", "error 5 at 0")
	// Only line feeds end lines.
	wantsRun(t, "make 1 1 1 1\rrecorder", "error 5 at 12")
	wantsRun(t, "make 1 1 1 1\x00\nrecorder", "error 5 at 12", "error 8")
	wantsRun(t, "make 1 1 1 1\nload \"a\nb\"", "ok", "error 5 at 7", "error 5 at 0")
}

func TestRunOfLinesThatParseRefuses(t *testing.T) {
	long := strings.Repeat("x", 65536)
	for line, want := range map[string]string{
		"fly": "error 5 at 0", "add 1": "error 5 at 5", "step -0": "error 5 at 5", `load "\x41"`: "error 5 at 6", "text ": "error 5 at 4",
		`load "` + long + `"`: "error 4 at 65536", "recorder" + long: "error 4 at 65536", " #" + long: "error 4 at 65536", "make 1 1 1 1" + long: "error 4 at 65536",
		long: "error 5 at 0",
	} {
		// What is wrong with a line is told ahead of whether there was a make; and it changes nothing.
		wantsRun(t, line, want)
		wantsRun(t, line+"\nrecorder", want, "error 8")
		wantsBehind(t, line+"\nreset 1\ntext\n", want, "ok 0", `ok "# gnomon 2\x0a# refused 0\x0a# HELP c \x0a# TYPE c counter\x0ac 5\x0a"`)
	}
}

func TestRunAheadOfTheFirstMake(t *testing.T) {
	for line, c := range eachKind() {
		if c.Kind == lines.Make {
			continue
		}
		wantsRun(t, line, "error 8")
		wantsRun(t, line+"\n"+line+"\n# x\n\n"+line+"\n", "error 8", "error 8", "error 8")
		// A make that is refused is none.
		wantsRun(t, line+"\nmake 0 1 1 1\n"+line+"\nmake 1 1 1 0\n"+line, "error 8", "error 1", "error 8", "error 1", "error 8")
	}
	// Nothing was done by what was refused.
	wantsRun(t, "recorder\ncounter \"c\" \"\"\nalarm \"x\" 0 0 \"(1 < 2)\"\nmake 1 1 100 1\nboard\nstatus\ntext\nrecorder", "error 8", "error 8", "error 8", "ok", "ok", "ok", `ok "# gnomon 1\x0a# refused 0\x0a"`, "ok 1")
	// That the parts are wrong isn't looked at.
	wantsRun(t, "rate \"\" 0 0\neval 0 \"\"\nload \"\"\nadd 0 0 -1", "error 8", "error 8", "error 8", "error 8")
}

func TestRunOfMake(t *testing.T) {
	for _, line := range []string{"1 1 1 1", "16 14 1048576 256", "16 1 1 1", "1 14 1 256", "1 1 1048576 1"} {
		wantsRun(t, "make "+line+"\ntext", "ok", fmt.Sprintf(`ok "# gnomon %s\x0a# refused 0\x0a"`, strings.Fields(line)[1]))
	}
	wrong := []int64{0, -1, math.MinInt64, math.MaxInt64, 1 << 32, 1<<32 + 1, -1 << 32}
	for i, greatest := range []int64{16, 14, 1048576, 256} {
		for _, n := range append(wrong, greatest+1) {
			part := []int64{1, 1, 1, 1}
			part[i] = n
			wantsRun(t, fmt.Sprintf("make %d %d %d %d\nrecorder", part[0], part[1], part[2], part[3]), "error 1", "error 8")
		}
	}
	// Each number has its own place.
	wantsRun(t, "make 3 2 100 5\nrecorder\nrecorder\nrecorder\nrecorder\ntext\ncounter \"c\" \"\"\nsummary \"s\" \"\"\nhistogram \"h\" \"\"\n"+
		"reset 1\nreset 2\nreset 3\nreset 4\nreset 5\nreset 6\nwindow 0 9\nwindow 0 1",
		"ok", "ok 1", "ok 2", "ok 3", "error 14", `ok "# gnomon 2\x0a# refused 0\x0a"`, "ok 0", "ok 1", "error 13", "ok 0", "ok 0", "ok 0", "ok 0", "ok 0", "ok 0",
		`ok 5 "# gnomon 2\x0a# refused 0\x0a# HELP c \x0a# TYPE c counter\x0ac 0\x0a# HELP s \x0a# TYPE s summary\x0as_sum 0\x0as_count 0\x0a"`, "error 16")
}

// full is a text that leaves nothing as it was at first; its answers are those of fullOK.
const full = begun + "reset 10\nadd 1 0 7\nalarm \"x\" 0 0 \"(total(c, 1000) > 4)\"\nboard\nalarm \"y\" 0 0 \"(1 < 2)\"\nstep 12\n"

func fullOK(more ...string) []string {
	return append(begunOK("ok 0", "ok", "ok", "ok", "ok", `ok "x" 1 3`), more...)
}

// TestRunOfAMakeThatIsRefused: all stays as it was.
func TestRunOfAMakeThatIsRefused(t *testing.T) {
	asked := "status\nwindow 0 10\ntext\nreset 11\nwindow 10 11\nrecorder\nrecorder\nadd 1 0 1\nboard\nstatus\ncounter \"d\" \"\"\nstep 12"
	text := func(n int) string {
		return fmt.Sprintf(`"# gnomon 2\x0a# refused 0\x0a# HELP c \x0a# TYPE c counter\x0ac %d\x0a"`, n)
	}
	answers := []string{`ok "x" 3 12 0`, "ok 1 " + text(5), "ok " + text(5), "ok 0", "ok 1 " + text(7), "ok 2", "error 14", "ok", "ok", `ok "x" 1 0 0 "y" 1 0 0`, "ok 1", `ok "x" 1 3 "y" 1 3`}
	wantsRun(t, full+asked, fullOK(answers...)...)
	for _, line := range []string{"make 0 1 1 1", "make 1 0 1 1", "make 1 1 0 1", "make 1 1 1 0", "make 0 0 0 0", "make 17 2 1000 4", "make 2 15 1000 4", "make 2 2 1048577 4", "make 2 2 1000 257", "make 2 2 1000 -4"} {
		wantsRun(t, full+line+"\n"+asked, fullOK(append([]string{"error 1"}, answers...)...)...)
	}
	wantsRun(t, full+"make 2 2 1000\n"+asked, fullOK(append([]string{"error 5 at 13"}, answers...)...)...)
}

// TestRunOfASecondMake: all begins anew.
func TestRunOfASecondMake(t *testing.T) {
	wantsRun(t, full+"make 1 3 1000 2\nstatus\nboard\nstatus\nstep 1\nwindow 0 100\ntext\nadd 1 0 1\nrelease 1\nreset 5\nhistogram \"c\" \"other\"\nrecorder\nrecorder\nobserve 1 0 9\nreset 6\nwindow 5 6\nalarm \"x\" 0 0 \"(1 < 2)\"\nboard\nstatus",
		fullOK("ok", "ok", "ok", "ok", "ok", "error 16", `ok "# gnomon 3\x0a# refused 0\x0a"`, "error 6", "error 6", "ok 0", "ok 0", "ok 1", "error 14", "ok", "ok 0",
			`ok 1 "# gnomon 3\x0a# refused 0\x0a# HELP c other\x0a# TYPE c histogram\x0ac_bucket{le=\"9\"} 1\x0ac_bucket{le=\"+Inf\"} 1\x0ac_sum 9\x0ac_count 1\x0a"`, "ok", "ok", `ok "x" 1 0 0`)...)
	// The board's last step is forgotten, and the same numbers make another one, too.
	wantsRun(t, full+"step 12\nmake 2 2 1000 4\nstep 12\nstep 12\ncounter \"d\" \"\"\nrecorder", fullOK("error 15", "ok", "ok", "error 15", "ok 0", "ok 1")...)
	// As many specs as there may be are none then.
	specs := strings.Repeat("alarm \"x\" 0 0 \"(1 < 2)\"\n", 64)
	oks := strings.Split(strings.Repeat("ok\n", 64), "\n")[:64]
	wantsBehind(t, specs+"alarm \"y\" 0 0 \"(1 < 2)\"\nmake 1 1 1 1\nalarm \"y\" 0 0 \"(1 < 2)\"\nboard\nstatus", append(oks, "error 3", "ok", "ok", "ok", `ok "y" 1 0 0`)...)
}

func TestRunOfInstruments(t *testing.T) {
	help := strings.Repeat("h", 1024)
	value := strings.Repeat("v", 1024)
	var many []string
	for i := range 17 {
		many = append(many, fmt.Sprintf(`a%02d="%d"`, i, i))
	}
	line := func(series, help string) string {
		c := lines.Command{Kind: lines.Counter, S: []string{series, help}}
		return lineOf(c) + "\n" + strings.Replace(lineOf(c), "counter", "histogram", 1) + "\n" + strings.Replace(lineOf(c), "counter", "summary", 1)
	}
	for _, x := range []struct{ series, help, want string }{
		{"", "", "error 9 at 0"}, {"1", "", "error 9 at 0"}, {"a_sum", "", "error 9 at 0"}, {"a b", "", "error 5 at 1"}, {"a{", "", "error 9 at 2"}, {"a{}", "", "error 9 at 2"},
		{`a{x="1",x="2"}`, "", "error 10 at 8"}, {`a{y="1",x="2"}`, "", "error 15 at 8"}, {`a{x=1}`, "", "error 5 at 4"}, {`a{x="1"} `, "", "error 5 at 8"}, {`a{x="1"`, "", "error 5 at 7"},
		{`a{x="` + value + `v"}`, "", "error 4 at 5"}, {"a{x=\"\xff\"}", "", "error 11 at 5"}, {`a{x="` + "\n" + `"}`, "", "error 5 at 5"},
		{"a{" + strings.Join(many, ",") + "}", "", "error 3 at 136"},
		// Of Register no place is told.
		{"a", help + "h", "error 4"}, {"a", "\xff", "error 11"}, {"a", "é\xc3", "error 11"},
		// What is wrong with the series is told first.
		{"a{", help + "h", "error 9 at 2"},
	} {
		wantsRun(t, "make 1 1 1000 1\n"+line(x.series, x.help), "ok", x.want, x.want, x.want)
	}
	// Each is of its own kind.
	wantsRun(t, "make 1 1 1000 1\n"+line("a", "é"), "ok", "ok 0", "error 12", "error 12")
	wantsRun(t, "make 1 1 1000 1\n"+line("a", help+"h")+"\n"+line("a", help), "ok", "error 4", "error 4", "error 4", "ok 0", "error 12", "error 12")
	wantsRun(t, `make 1 1 1000 1
counter "c" "all"
histogram "h{x=\"\\\\1\"}" "of\\them\x0a"
summary "s" ""
counter "c{a=\"1\",b=\"2\"}" "all"
counter "c" "all"
counter "c" "other"
summary "c{a=\"1\"}" "all"
reset 1
text`, "ok", "ok 0", "ok 1", "ok 2", "ok 3", "ok 0", "error 12", "error 12", "ok 0",
		`ok "# gnomon 1\x0a# refused 0\x0a# HELP c all\x0a# TYPE c counter\x0ac 0\x0ac{a=\"1\",b=\"2\"} 0\x0a# HELP h of\\\\them\\n\x0a# TYPE h histogram\x0ah_bucket{x=\"\\\\1\",le=\"+Inf\"} 0\x0ah_sum{x=\"\\\\1\"} 0\x0ah_count{x=\"\\\\1\"} 0\x0a`+
			`# HELP s \x0a# TYPE s summary\x0as_sum 0\x0as_count 0\x0a"`)
	// No room for the cells; more than there may be.
	wantsRun(t, "make 2 1 8 1\ncounter \"a\" \"\"\ncounter \"b\" \"\"\ncounter \"a\" \"\"", "ok", "ok 0", "error 13", "ok 0")
	text, want := "make 1 1 100000 1\n", []string{"ok"}
	for i := range 256 {
		text += fmt.Sprintf("summary \"s%d\" \"\"\n", i)
		want = append(want, fmt.Sprint("ok ", i))
	}
	wantsRun(t, text+"counter \"c\" \"\"\nsummary \"s7\" \"\"", append(want, "error 3", "ok 7")...)
}

func TestRunOfRecords(t *testing.T) {
	all := "histogram \"h\" \"\"\nsummary \"s\" \"\"\n"
	wantsBehind(t, all+`recorder
recorder
release 3
release 0
release -1
release 9223372036854775807
release 2
release 2
recorder
add 2 0 1
observe 2 1 1
sample 2 2 1
add 3 0 9223372036854775807
observe 3 1 6
sample 3 2 0.1
sample 3 2 -0
sample 1 2 0.2
reset 1
text`, "ok 1", "ok 2", "ok 2", "error 14", "error 6", "error 6", "error 6", "error 6", "ok", "error 8", "ok 3", "error 8", "error 8", "error 8", "ok", "ok", "ok", "ok", "ok", "ok 3",
		`ok "# gnomon 2\x0a# refused 3\x0a# HELP c \x0a# TYPE c counter\x0ac 9223372036854775812\x0a# HELP h \x0a# TYPE h histogram\x0ah_bucket{le=\"6\"} 1\x0ah_bucket{le=\"+Inf\"} 1\x0ah_sum 6\x0ah_count 1\x0a`+
			`# HELP s \x0a# TYPE s summary\x0as{quantile=\"0\"} -0\x0as{quantile=\"1\"} 0.2\x0as_sum 0.30000000000000004\x0as_count 3\x0a"`)
	// A handle, an instrument, a value: each in its place.
	for line, want := range map[string]string{
		"add 0 0 1": "error 6", "add 2 0 1": "error 6", "add -1 0 1": "error 6", "add 4294967297 0 1": "error 6", "add 1 3 1": "error 6", "add 1 -1 1": "error 6", "add 1 4294967296 1": "error 6",
		"add 1 1 1": "error 7", "add 1 2 1": "error 7", "add 1 0 -1": "error 2", "add 1 0 -9223372036854775808": "error 2", "add 1 1 -1": "error 7", "add 2 1 -1": "error 6", "add 1 0 0": "ok",
		"observe 0 1 1": "error 6", "observe 1 3 1": "error 6", "observe 1 0 1": "error 7", "observe 1 2 1": "error 7", "observe 1 1 -1": "error 2", "observe 1 1 9223372036854775807": "ok", "observe 1 1 0": "ok",
		"sample 0 2 1": "error 6", "sample 1 3 1": "error 6", "sample 1 0 1": "error 7", "sample 1 1 1": "error 7", "sample 1 2 NaN": "error 2", "sample 1 2 +Inf": "error 2", "sample 1 2 -Inf": "error 2",
		"sample 1 2 1e300": "error 2", "sample 1 2 9.7453140114e288": "ok", "sample 1 2 -9.7453140114e288": "ok", "sample 1 2 5e-324": "ok", "sample 1 0 NaN": "error 7",
	} {
		// What is refused is counted, but for what has no handle or no instrument.
		refused := map[string]string{"ok": "ok 0", "error 6": "ok 0"}[want]
		if refused == "" {
			refused = "ok 1"
		}
		wantsBehind(t, all+line+"\nreset 0\nreset 1", "ok 1", "ok 2", want, refused, "ok 0")
	}
}

func TestRunOfReset(t *testing.T) {
	refused := strings.Repeat("add 1 0 -1\n", 12)
	wants := append(strings.Split(strings.Repeat("error 2\n", 12), "\n")[:12], "ok 12", "ok 0")
	wantsBehind(t, refused+"reset -9223372036854775808\nreset 9223372036854775807", wants...)
	// Times rise. What a Reset that is refused has told is in the totals alone.
	wantsBehind(t, "reset 5\nadd 1 0 2\nreset 5\nreset 4\nadd 1 0 3\nreset 6\nwindow 0 9\ntext", "ok 0", "ok", "error 15", "error 15", "ok", "ok 0",
		`ok 2 "# gnomon 2\x0a# refused 0\x0a# HELP c \x0a# TYPE c counter\x0ac 8\x0a"`, `ok "# gnomon 2\x0a# refused 0\x0a# HELP c \x0a# TYPE c counter\x0ac 10\x0a"`)
}

func TestRunOfTextAndWindowThatAreTooLong(t *testing.T) {
	text, want := "make 1 1 10000 2\n", []string{"ok"}
	for i := range 150 {
		series := fmt.Sprintf(`c{a00="%d"`, i)
		for k := range 15 {
			series += fmt.Sprintf(`,b%02d="%s"`, k, strings.Repeat(`\"`, api.MaxText))
		}
		text += lineOf(lines.Command{Kind: lines.Counter, S: []string{series + "}", ""}}) + "\n"
		want = append(want, fmt.Sprint("ok ", i))
	}
	wantsRun(t, text+"text\nreset 10\ntext\nwindow 0 10\nwindow 10 20", append(want, "error 4", "ok 0", "error 4", "error 4", "error 16")...)
	// All bytes of a text are quoted; its line may be longer than one that is read.
	text, want = "make 1 1 10000 2\n", []string{"ok"}
	for i := range 20 {
		text += lineOf(lines.Command{Kind: lines.Counter, S: []string{fmt.Sprintf(`c{a="%d",b="%s"}`, i, strings.Repeat("é", 512)), strings.Repeat("\x01", 1000)}}) + "\n"
		want = append(want, fmt.Sprint("ok ", i))
	}
	all := wantsAsAnswered(t, text+"reset 7\ntext\nwindow 6 7")
	if n := len(all); len(all[n-1]) < 80000 || strings.Replace(all[n-1], "ok 1", "ok", 1) != all[n-2] {
		t.Errorf("texts of %d and %d bytes", len(all[n-2]), len(all[n-1]))
	}
}

func TestRunOfWindowAndRate(t *testing.T) {
	text := "reset 10\nadd 1 0 7\nreset 20\nadd 1 0 1\nreset 30\n"
	oks := []string{"ok 0", "ok", "ok 0", "ok", "ok 0"}
	page := func(n int) string {
		return fmt.Sprintf(`"# gnomon 2\x0a# refused 0\x0a# HELP c \x0a# TYPE c counter\x0ac %d\x0a"`, n)
	}
	for line, want := range map[string]string{
		"window 0 30": "ok 3 " + page(13), "window 0 10": "ok 1 " + page(5), "window 10 20": "ok 1 " + page(7), "window 9 29": "ok 2 " + page(12), "window 10 30": "ok 2 " + page(8),
		"window 30 10": "error 16", "window 30 30": "error 16", "window 10 19": "error 16", "window 30 99": "error 16", "window -9223372036854775808 9223372036854775807": "ok 3 " + page(13),
		`rate "c" 0 10`: "ok 0.5", `rate "c" 10 20`: "ok 0.7", `rate "c" 10 30`: "ok 0.4", `rate "c" 5 11`: "ok 0.8333333333333334", `rate "c" 0 30`: "ok 0.43333333333333335",
		`rate "c" -9223372036854775808 9223372036854775807`: "ok 7.047314121155779e-19", `rate "c" 29 30`: "ok 1",
		`rate "c" 30 10`: "error 1", `rate "c" 30 30`: "error 1", `rate "c" 30 31`: "error 16", `rate "d" 0 10`: "error 6", `rate "c{a=\"1\"}" 0 10`: "error 6",
		`rate "" 0 10`: "error 9 at 0", `rate "c{" 0 10`: "error 9 at 2", `rate "c " 0 10`: "error 5 at 1", `rate "c{b=\"1\",a=\"1\"}" 30 10`: "error 15 at 8", `rate "c{a=\"\xff\"}" 0 10`: "error 11 at 5",
	} {
		wantsBehind(t, text+line, append(oks, want)...)
	}
	wantsBehind(t, "window 0 10\nrate \"c\" 0 10\nrate \"c\" 10 0\nrate \"c{\" 10 0", "error 16", "error 16", "error 1", "error 9 at 2")
	wantsBehind(t, "histogram \"h\" \"\"\ncounter \"d{a=\\\"1\\\"}\" \"\"\nadd 1 2 3\nreset 2\nrate \"h\" 0 2\nrate \"d\" 0 2\nrate \"d{a=\\\"1\\\"}\" 0 2", "ok 1", "ok 2", "ok", "ok 0", "error 7", "error 6", "ok 1.5")
}

func TestRunOfQuantile(t *testing.T) {
	text := "histogram \"h{a=\\\"1\\\"}\" \"\"\nhistogram \"e\" \"\"\nobserve 1 1 3\nobserve 1 1 100\nreset 10\nobserve 1 1 5\nobserve 1 1 8\nreset 20\n"
	oks := []string{"ok 1", "ok 2", "ok", "ok", "ok 0", "ok", "ok", "ok 0"}
	for line, want := range map[string]string{
		`quantile "h{a=\"1\"}" 1 2 0 10`: "ok 3", `quantile "h{a=\"1\"}" 2 3 0 10`: "ok 111", `quantile "h{a=\"1\"}" 1 1 0 20`: "ok 111", `quantile "h{a=\"1\"}" 3 4 0 20`: "ok 9", `quantile "h{a=\"1\"}" 1 2 0 20`: "ok 5",
		`quantile "h{a=\"1\"}" 0 1 0 20`: "ok 3", `quantile "h{a=\"1\"}" 1 1 10 20`: "ok 9", `quantile "h{a=\"1\"}" 0 5 10 20`: "ok 5",
		`quantile "h{a=\"1\"}" 2 1 0 20`: "error 1", `quantile "h{a=\"1\"}" 0 0 0 20`: "error 1", `quantile "h{a=\"1\"}" -1 2 0 20`: "error 1", `quantile "h{a=\"1\"}" 1 2 20 10`: "error 16", `quantile "h{a=\"1\"}" 2 1 20 10`: "error 16",
		`quantile "h" 1 2 0 20`: "error 6", `quantile "d" 2 1 0 20`: "error 6", `quantile "c" 1 2 0 20`: "error 7", `quantile "c" 2 1 0 20`: "error 7", `quantile "e" 1 2 0 20`: "error 16", `quantile "e" 2 1 0 20`: "error 1",
		`quantile "" 1 2 0 20`: "error 9 at 0", `quantile "h{a=\"1\"" 2 1 20 10`: "error 5 at 7", `quantile "h_count" 1 2 0 20`: "error 9 at 0",
	} {
		wantsBehind(t, text+line, append(oks, want)...)
	}
}

func TestRunOfEval(t *testing.T) {
	text := "histogram \"h\" \"\"\nsummary \"s\" \"\"\nsample 1 2 0.5\nsample 1 2 2\nobserve 1 1 8\nreset 10\n"
	oks := []string{"ok 1", "ok 2", "ok", "ok", "ok", "ok 0"}
	deep := strings.Repeat("(1 + ", 256) + "1" + strings.Repeat(")", 256)
	for line, want := range map[string]string{
		`eval 12 "(total(c, 5) > 4)"`: "ok true", `eval 12 "(total(c, 5) > 5)"`: "ok false", `eval 12 "total(c, 5)"`: "ok 5", `eval 12 "rate(c, 3)"`: "ok 1.6666666666666667", `eval 12 "sum(s, 5)"`: "ok 2.5",
		`eval 12 "least(s, 5)"`: "ok 0.5", `eval 12 "quantile(1/2, h, 5)"`: "ok 9", `eval 12 "not((count(h, 5) == 1))"`: "ok false", `eval 0 "-0"`: "ok -0", `eval 0 "(1 / 0)"`: "ok +Inf", `eval 0 "(-1 / 0)"`: "ok -Inf",
		`eval 0 "(0 / 0)"`: "ok NaN", `eval 0 "0"`: "ok 0", `eval 0 "(1 < 2)"`: "ok true", `eval 0 "(2 < 1)"`: "ok false", `eval 0 "1e21"`: "ok 1e21",
		`eval 0 ""`: "error 5 at 0", `eval 0 "(1 +"`: "error 5 at 4", `eval 0 "(1 and 2)"`: "error 17 at 0", `eval 0 "total(c, 0)"`: "error 1 at 9", `eval 0 "total(c_sum, 5)"`: "error 9 at 6", `eval 0 "quantile(3/2, h, 5)"`: "error 1 at 11",
		`eval 0 "total(c{y=\"1\",x=\"2\"}, 5)"`: "error 15 at 14", `eval 0 "total(c{x=\"1\",x=\"2\"}, 5)"`: "error 10 at 14", `eval 0 "` + deep + `"`: "error 3 at 1280", `eval 0 "total(c{x=\"\xff\"}, 5)"`: "error 11 at 11",
		`eval 0 "total(c{x=\"` + strings.Repeat("v", 1025) + `\"}, 5)"`: "error 4 at 11",
		`eval 4611686018427387905 "1"`:                                  "error 2", `eval -4611686018427387905 "1"`: "error 2", `eval 4611686018427387904 "1"`: "ok 1", `eval -4611686018427387904 "1"`: "ok 1",
		`eval 12 "total(c, 2)"`: "error 16", `eval 12 "total(b, 5)"`: "error 6", `eval 12 "total(s, 5)"`: "error 7", `eval 12 "((1 < 2) or (total(b, 5) > 1))"`: "ok true", `eval 9223372036854775807 "("`: "error 5 at 1",
	} {
		wantsBehind(t, text+line, append(oks, want)...)
	}
}

func TestRunOfAlarms(t *testing.T) {
	// The specs are looked at by board alone, with the first one that is wrong; then the board stays as it was.
	for spec, want := range map[string]string{
		`"1" 0 0 "(1 < 2)"`: "error 9 at 1", `"" 0 0 "("`: "error 9 at 1", `"ok" 0 0 "(1 < 2)"`: "error 10 at 1", `"ok" -1 0 "("`: "error 10 at 1", `"x" 0 0 "(1 <"`: "error 5 at 1", `"x" -1 0 "(1 + 2)"`: "error 17 at 1",
		`"x" 0 0 "(1 and 2)"`: "error 17 at 1", `"x" 0 0 "(total(c, 0) < 1)"`: "error 1 at 1", `"x" -1 0 "(1 < 2)"`: "error 1 at 1", `"x" 0 -1 "(1 < 2)"`: "error 1 at 1",
		`"x" 4611686018427387905 0 "(1 < 2)"`: "error 1 at 1", `"x" 0 4611686018427387905 "(1 < 2)"`: "error 1 at 1", `"x" 0 0 "(total(c_sum, 1) < 1)"`: "error 9 at 1", `"(1 < 2)" 0 0 "x"`: "error 9 at 1",
	} {
		wantsBehind(t, "alarm \"ok\" 0 0 \"(1 < 2)\"\nboard\nstep 3\nalarm "+spec+"\nboard\nalarm \"z\" 0 0 \"\"\nboard\nstatus\nstep 3\nstep 4", "ok", "ok", `ok "ok" 1 3`, "ok", want, "ok", want, `ok "ok" 3 3 0`, "error 15", "ok")
	}
	wantsBehind(t, "alarm \"\" 0 0 \"\"\nboard\nstatus\nstep 1", "ok", "error 9 at 0", "ok", "ok")
	// Name, For, Keep, rule, each in its place: times of another length than one another.
	wantsBehind(t, `reset 10
alarm "x" 2 5 "(total(c, 10) > 4)"
alarm "a:b_1" 4611686018427387904 4611686018427387904 "(total(d, 10) > 4)"
status
board
status
step 10
step 11
step 12
status
step 20
step 24
step 25
status
step 25
step 4611686018427387905
step -4611686018427387905
board
status
step -5`, "ok 0", "ok", "ok", "ok", "ok", `ok "x" 1 0 0 "a:b_1" 1 0 0`, `ok "x" 1 2`, "ok", `ok "x" 2 3`, `ok "x" 3 12 0 "a:b_1" 1 0 6`, `ok "x" 3 4`, "ok", `ok "x" 4 1`, `ok "x" 1 25 16 "a:b_1" 1 0 16`, "error 15", "error 2", "error 2",
		"ok", `ok "x" 1 0 0 "a:b_1" 1 0 0`, "ok")
	// A step may be ahead of the beginning of all times that are above 0; who turns then has turned since then.
	wantsBehind(t, "alarm \"x\" 1 0 \"(1 < 2)\"\nboard\nstep -7\nstatus\nstep -6\nstatus", "ok", "ok", `ok "x" 1 2`, `ok "x" 2 -7 0`, `ok "x" 2 3`, `ok "x" 3 -6 0`)
	// Several that turn at one step are told in the order of their specs.
	wantsBehind(t, "alarm \"b\" 0 0 \"(1 < 2)\"\nalarm \"a\" 1 0 \"(1 < 2)\"\nalarm \"c\" 0 0 \"(2 < 1)\"\nboard\nstep 1\nstep 2\nstatus", "ok", "ok", "ok", "ok", `ok "b" 1 3 "a" 1 2`, `ok "a" 2 3`, `ok "b" 3 1 0 "a" 3 2 0 "c" 1 0 0`)
	// There may be 64 specs, whatever they are.
	wantsBehind(t, strings.Repeat("alarm \"\" 0 0 \"\"\n", 66)+"board", append(strings.Split(strings.Repeat("ok\n", 64), "\n")[:64], "error 3", "error 3", "error 9 at 0")...)
	text, want := "", []string{}
	for i := range 64 {
		text += fmt.Sprintf("alarm \"n%d\" %d 0 \"(1 < 2)\"\n", i, i%2)
		want = append(want, "ok")
	}
	turned := ""
	for i := range 64 {
		turned += fmt.Sprintf(` "n%d" 1 %d`, i, 3-i%2)
	}
	wantsBehind(t, text+"alarm \"y\" 0 0 \"(1 < 2)\"\nboard\nstep 0", append(want, "error 3", "ok", "ok"+turned)...)
}

func TestRunOfLoad(t *testing.T) {
	for text, want := range map[string]string{
		"# gnomon 3\n# refused 2\n": "ok 0", "# gnomon 14\n# refused 0\n# HELP a all\n# TYPE a counter\na 7\na{x=\"1\"} 0\n": "ok 2", "# gnomon 1\n# refused 0\n# HELP s \n# TYPE s summary\ns_sum 0\ns_count 0\n": "ok 1",
		"": "error 5 at 1", "x": "error 5 at 1", "# gnomon 3": "error 5 at 1", "# gnomon 3\n": "error 5 at 2", "# gnomon 15\n": "error 5 at 1", "# gnomon 3\n# refused -1\n": "error 5 at 2",
		"# gnomon 3\n# refused 0\n# HELP a \n# TYPE a counter\na -7\n":                                 "error 2 at 5",
		"# gnomon 3\n# refused 0\n# HELP a \n# TYPE a counter\na{x=\"1\"} 0\na 1\n":                    "error 15 at 6",
		"# gnomon 3\n# refused 0\n# HELP a \n# TYPE a counter\na 0\na 0\n":                             "error 10 at 6",
		"# gnomon 3\n# refused 0\n# HELP a \xff\n# TYPE a counter\na 0\n":                              "error 11 at 5",
		"# gnomon 3\n# refused 0\n# HELP a " + strings.Repeat("h", 1025) + "\n# TYPE a counter\na 0\n": "error 4 at 5",
	} {
		wantsBehind(t, lineOf(lines.Command{Kind: lines.Load, S: []string{text}})+"\nreset 0\ntext", want, "ok 0", `ok "# gnomon 2\x0a# refused 0\x0a# HELP c \x0a# TYPE c counter\x0ac 5\x0a"`)
	}
}

// TestRunReadsItsOwnTexts: what text and window tell, quoted as it is, load takes.
func TestRunReadsItsOwnTexts(t *testing.T) {
	text := begun + "summary \"s{a=\\\"\\xc3\\xa9\\\"}\" \"\\xe2\\x80\\xa8\"\nsample 1 1 0.1\nsample 1 1 -0\nreset 10\n"
	told := strings.Split(lines.Run(text+"text\nwindow 0 10"), "\n")
	page := strings.TrimPrefix(told[len(told)-3], "ok ")
	window := strings.TrimPrefix(told[len(told)-2], "ok 1 ")
	if page != window || !strings.HasPrefix(page, `"# gnomon 2\x0a`) || !strings.Contains(page, `\xc3\xa9`) || !strings.Contains(page, `\xe2\x80\xa8`) {
		t.Errorf("%s\n%s", page, window)
	}
	wantsRun(t, text+"load "+page, begunOK("ok 1", "ok", "ok", "ok 0", "ok 2")...)
}
