package lines_test

import (
	"fmt"
	"math"
	"math/rand"
	"strings"
	"testing"

	"gnomon/api"
	"gnomon/lines"
)

// P24.2: Parse. P24.4: there and back.

func TestParseOfEachKind(t *testing.T) {
	for line, c := range eachKind() {
		wantsParse(t, line, c)
	}
}

func TestParseExamples(t *testing.T) {
	wantsParse(t, "add 1 0 -5", lines.Command{Kind: lines.Add, N: []int64{1, 0, -5}})
	for line, at := range map[string]int{"": 0, "fly": 0, "add 1": 5, "add 1 0 05": 8, "text ": 4, `load "\x41"`: 6, `load "a`: 7, "sample 1 0 1.0": 11} {
		wantsNone(t, line, api.ErrForm, at)
	}
}

func TestParseOfNoWord(t *testing.T) {
	for _, line := range []string{
		"", " ", "fly", "Add 1 0 5", "ADD 1 0 5", " add 1 0 5", "1", "#", "\n", "\r", "adds 1 0 5", "ad 1 0 5", "d 1 0 5", "addadd 1 0 5", "texts", "textrecorder", "none", "error 8", "ok", "\xff", "é", "\ufffd", "\x00add 1 0 5", "_", "-", "`", "{",
		strings.Repeat("a", 65536), "counters \"a\" \"b\"",
	} {
		wantsNone(t, line, api.ErrForm, 0)
	}
	for _, r := range table {
		for n := range r.word {
			wantsNone(t, r.word[:n], api.ErrForm, 0)
			wantsNone(t, r.word[:n]+" 1", api.ErrForm, 0)
			wantsNone(t, r.word[:n]+strings.ToUpper(r.word[n:n+1])+r.word[n+1:], api.ErrForm, 0)
		}
		for c := 'a'; c <= 'z'; c++ {
			wantsNone(t, r.word+string(c), api.ErrForm, 0)
		}
	}
}

// TestParseOfALineThatEndsAnywhere: all beginnings of each kind's line.
func TestParseOfALineThatEndsAnywhere(t *testing.T) {
	for line := range eachKind() {
		for n := range line {
			wantsAsRead(t, line[:n])
		}
	}
	for line, l := range map[string][]int{
		// By how many bytes there are the place, from the word's end on; -1, where it is a line.
		"add 10 -1 7":               {3, 4, 5, 6, 7, 7, 9, 10, -1},
		"sample 1 0 0.5":            {6, 7, 8, 9, 10, 11, -1, 11, -1},
		`load "a\"\\\x0ab"`:         {4, 5, 6, 7, 7, 9, 9, 11, 11, 11, 11, 15, 16, -1},
		`rate "c" 10 5`:             {4, 5, 6, 7, 8, 9, 10, 11, 12, -1},
		`counter "a" "b"`:           {7, 8, 9, 10, 11, 12, 13, 14, -1},
		`eval 7 "1"`:                {4, 5, 6, 7, 8, 9, -1},
		"step -5":                   {4, 5, 5, -1},
		"make 0 0 0 0":              {4, 5, 6, 7, 8, 9, 10, 11, -1},
		"reset 9223372036854775808": {5, 6, -1, -1, -1, -1, -1, -1, -1, -1, -1, -1, -1, -1, -1, -1, -1, -1, -1, -1, 6},
	} {
		word, _, _ := strings.Cut(line, " ")
		for i, at := range l {
			beginning := line[:len(word)+i]
			if at < 0 {
				wantsAsRead(t, beginning)
				if _, e, _ := lines.Parse(beginning); e != api.OK {
					t.Errorf("%q: %v", beginning, e)
				}
				continue
			}
			wantsNone(t, beginning, api.ErrForm, at)
		}
	}
}

// withPart tells a line of a kind, whose part number i is that text, and the place of it.
func withPart(r row, i int, text string) (line string, at int) {
	line = r.word
	for k, part := range r.parts {
		line += " "
		switch {
		case k == i:
			at = len(line)
			line += text
		case part == 's':
			line += `"a"`
		default:
			line += "10"
		}
	}
	return line, at
}

// eachPart goes through the parts of a sort, of all kinds.
func eachPart(part rune, do func(r row, i int)) {
	for _, r := range table {
		for i, is := range r.parts {
			if is == part {
				do(r, i)
			}
		}
	}
}

func TestParseOfNumbersOfAnotherForm(t *testing.T) {
	eachPart('n', func(r row, i int) {
		for _, text := range []string{
			"", "-", "--", "--1", "-0", "00", "01", "-01", "007", "1-", "1-1", "5-", "+1", "a", "x", `"1"`, "NaN", ".5", "\x00", "\xff1", "é", "\u0661",
			"9223372036854775808", "-9223372036854775809", "18446744073709551616", "18446744073709551617", "-18446744073709551615", "99999999999999999999", "00000000000000000001",
			strings.Repeat("9", 60000), strings.Repeat("0", 60000), strings.Repeat("-", 60000), "-" + strings.Repeat("0", 60000) + "1",
		} {
			line, at := withPart(r, i, text)
			wantsNone(t, line, api.ErrForm, at)
			wantsAsRead(t, line)
		}
		// Of these the beginning is a number: what is wrong stands behind it.
		for text, n := range map[string]int{"1.0": 1, "1e5": 1, "0x1": 1, "1_0": 1, "1,5": 1, "1a": 1, "10+": 2, "-5\t": 2, "1\xff": 1, "7\r": 1, "1\u0661": 1, `5"`: 1} {
			line, at := withPart(r, i, text)
			wantsNone(t, line, api.ErrForm, at+n)
			wantsAsRead(t, line)
		}
		for text, n := range map[string]int64{"0": 0, "1": 1, "-1": -1, "9223372036854775807": math.MaxInt64, "-9223372036854775808": math.MinInt64, "100": 100} {
			line, _ := withPart(r, i, text)
			c, e, _ := lines.Parse(line)
			if k := strings.Count(r.parts[:i], "n"); e != api.OK || c.N[k] != n {
				t.Errorf("%q: %v, %v", line, c, e)
			}
			wantsAsRead(t, line)
		}
	})
}

func TestParseOfFloatsOfAnotherForm(t *testing.T) {
	eachPart('x', func(r row, i int) {
		for _, text := range []string{
			"", "-", "+", ".", "1.0", "01", "1e5", "1E21", "1e+21", "+1", ".5", "5.", "1e400", "inf", "Inf", "+inf", "-INF", "nan", "NAN", "-NaN", "+NaN", "0x1", "0x1p4", "00", "-00", "0.0", "-0.0", "+0", "0.10000000000000001", "5e-325", "2e-324",
			"1e021", "1e-07", "infinity", "a", "0.1.2", "1-", "1e", "1e-", "e5", "--1", "9007199254740993", strings.Repeat("9", 60000), strings.Repeat("0", 60000), "1e" + strings.Repeat("9", 60000), "z", "Z", "@", "[", "`", "{", "/", ":", ",", "\xff", "é", "\u0661", `"1"`,
		} {
			line, at := withPart(r, i, text)
			wantsNone(t, line, api.ErrForm, at)
			wantsAsRead(t, line)
		}
		// Of these the beginning is a float: what is wrong stands behind it.
		for text, n := range map[string]int{"0.5,": 3, "1_0": 1, "1\xff": 1, "NaN ": 3, "-0\t": 2, "+Inf\"": 4, "1e21_": 4, "7\u0661": 1, "2/": 1, "2:": 1, "2@": 1, "2[": 1, "2`": 1, "2{": 1} {
			line, at := withPart(r, i, text)
			wantsNone(t, line, api.ErrForm, at+n)
			wantsAsRead(t, line)
		}
		for _, x := range oddFloats {
			c := lines.Command{Kind: r.kind, N: []int64{10, 10}, X: []float64{x}}
			wantsParse(t, lineOf(c), c)
		}
		for text, x := range map[string]float64{"NaN": math.NaN(), "-0": math.Copysign(0, -1), "0": 0, "+Inf": math.Inf(1), "-Inf": math.Inf(-1), "5e-324": 5e-324, "1.7976931348623157e308": math.MaxFloat64} {
			line, _ := withPart(r, i, text)
			wantsParse(t, line, lines.Command{Kind: r.kind, N: []int64{10, 10}, X: []float64{x}})
		}
	})
}

func TestParseOfBytesInTexts(t *testing.T) {
	eachPart('s', func(r row, i int) {
		for b := range 256 {
			c := string([]byte{byte(b)})
			line, at := withPart(r, i, `"ab`+c+`cd"`)
			switch {
			case c == `"`:
				wantsNone(t, line, api.ErrForm, at+4)
			case c == `\` || b < ' ' || b > '~':
				wantsNone(t, line, api.ErrForm, at+3)
			default:
				k := strings.Count(r.parts[:i], "s")
				if got, e, _ := lines.Parse(line); e != api.OK || got.S[k] != "ab"+c+"cd" {
					t.Errorf("%q: %v, %v", line, got, e)
				}
			}
			wantsAsRead(t, line)
			// As the quote ahead, and as all of it.
			if c != `"` {
				line, at = withPart(r, i, c+`ab"`)
				wantsNone(t, line, api.ErrForm, at)
				line, at = withPart(r, i, c)
				wantsNone(t, line, api.ErrForm, at)
			}
		}
		// Letters of several bytes, and bytes that are none: the first byte is told.
		for _, text := range []string{"é", "\u2028", "\ufffd", "\U0010ffff", "\xc3", "\xe2\x80", "\xff\xfe", "\x80"} {
			line, at := withPart(r, i, `"ab`+text+`"`)
			wantsNone(t, line, api.ErrForm, at+3)
			wantsAsRead(t, line)
		}
	})
}

func TestParseOfEscapes(t *testing.T) {
	// What stands behind a backslash, if it is no x.
	for b := range 256 {
		c := string([]byte{byte(b)})
		line := `load "a\` + c + `41b"`
		if c == `"` || c == `\` {
			// Of the quote that is written so the text goes on.
			wantsParse(t, line, lines.Command{Kind: lines.Load, S: []string{"a" + c + "41b"}})
			continue
		}
		wantsNone(t, line, api.ErrForm, 7)
	}
	// What stands behind an x: each two bytes.
	taken := 0
	for high := range 256 {
		for low := range 256 {
			two := string([]byte{byte(high), byte(low)})
			line := `load "\\\x` + two + `\""`
			var b byte
			n, _ := fmt.Sscanf(two, "%02x", &b)
			is := n == 1 && fmt.Sprintf("%02x", b) == two && (b < ' ' || b > '~')
			if is {
				taken++
				wantsParse(t, line, lines.Command{Kind: lines.Load, S: []string{`\` + string([]byte{b}) + `"`}})
			} else {
				wantsNone(t, line, api.ErrForm, 8)
			}
		}
	}
	if taken != 32+129 {
		t.Errorf("%d escapes were taken", taken)
	}
}

func TestParseOfEscapesThatAreCutShort(t *testing.T) {
	eachPart('s', func(r row, i int) {
		for _, text := range []string{`\`, `\x`, `\x0`, `\x1`, `\x8`, `\xf`} {
			// By the line's end.
			line, at := withPart(r, i, `"ab`+text)
			line = line[:at+3+len(text)]
			wantsNone(t, line, api.ErrForm, at+3)
			wantsAsRead(t, line)
			// By the quote.
			if text != `\` {
				line, at = withPart(r, i, `"ab`+text+`"`)
				wantsNone(t, line, api.ErrForm, at+3)
				wantsAsRead(t, line)
			}
		}
		// A quote that is part of an escape ends no text.
		for _, text := range []string{`\"`, `a\"`, `\\\"`, `\x0a\"`} {
			line, at := withPart(r, i, `"`+text)
			line = line[:at+1+len(text)]
			wantsNone(t, line, api.ErrForm, len(line))
			wantsAsRead(t, line)
		}
	})
}

// TestParseOfWhatStandsAheadOfParts: any byte in a blank's place.
func TestParseOfWhatStandsAheadOfParts(t *testing.T) {
	for _, line := range []string{`alarm "x" 5 10 "(1 < 2)"`, `eval 12 "c"`, "sample 2 3 0.1", `counter "c" "d"`, "make 1 2 3 4"} {
		for i := range line {
			if line[i] != ' ' || strings.Count(line[:i], `"`)%2 == 1 {
				continue
			}
			for b := range 256 {
				c := string([]byte{byte(b)})
				wantsAsRead(t, line[:i]+c+line[i+1:])
				// Digits and such make the part ahead longer, letters the word.
				if !strings.ContainsAny(c, " -+.0123456789") && (b < 'A' || b > 'z') {
					wantsNone(t, line[:i]+c+line[i+1:], api.ErrForm, i)
				}
			}
			// Without it two parts become one, or the second one stands where it must.
			if wantsAsRead(t, line[:i]+line[i+1:]) {
				t.Errorf("%q without its byte %d is taken", line, i)
			}
			// A second blank is the first byte of the part.
			wantsNone(t, line[:i]+" "+line[i:], api.ErrForm, i+1)
		}
	}
}

func TestParseOfWhatStandsBehind(t *testing.T) {
	for line, c := range eachKind() {
		parts := table[c.Kind-1].parts
		for b := range 256 {
			more := string([]byte{byte(b)})
			is := wantsAsRead(t, line+more)
			isDigit := '0' <= b && b <= '9'
			switch {
			case strings.HasSuffix(parts, "s"), parts == "" && (b < 'a' || b > 'z'), strings.HasSuffix(parts, "n") && !isDigit && b != '-':
				wantsNone(t, line+more, api.ErrForm, len(line))
			case is && !isDigit:
				t.Errorf("%q is taken", line+more)
			}
		}
		wantsNone(t, line+" ", api.ErrForm, len(line))
		wantsNone(t, line+" 1", api.ErrForm, len(line))
		wantsNone(t, line+` "a"`, api.ErrForm, len(line))
		wantsNone(t, line+"\n", api.ErrForm, len(line))
		wantsNone(t, line+"\r", api.ErrForm, len(line))
		wantsNone(t, line+"\n"+line, api.ErrForm, len(line))
	}
}

func TestParseAtMaxLine(t *testing.T) {
	text := strings.Repeat("a", 65529)
	wantsParse(t, `load "`+text+`"`, lines.Command{Kind: lines.Load, S: []string{text}})
	wantsNone(t, `load "`+text+`a"`, api.ErrBytes, 65536)
	wantsNone(t, `load "`+text+`" `, api.ErrBytes, 65536)
	wantsNone(t, `load "`+text+"a", api.ErrForm, 65536)
	wantsNone(t, `load "`+text+`\`, api.ErrForm, 65535)
	// The length is looked at ahead of all else.
	for _, line := range []string{" ", "\xff", "é", "a", "add 1 0 5", "#", "\n", `load "`} {
		long := strings.Repeat(line, 65537)
		wantsNone(t, long[:65537], api.ErrBytes, 65536)
		wantsNone(t, long, api.ErrBytes, 65536)
		wantsAsRead(t, long[:65536])
	}
	wantsNone(t, "add 1 0 5"+strings.Repeat(" ", 65527), api.ErrForm, 9)
	wantsNone(t, "add 1 0 5"+strings.Repeat(" ", 65528), api.ErrBytes, 65536)
}

// TestThereAndBack: what Print tells Parse reads as the command.
func TestThereAndBack(t *testing.T) {
	r := rand.New(rand.NewSource(244))
	for range 40000 {
		c := someCommand(r)
		line, e := lines.Print(c)
		if e != api.OK {
			t.Fatalf("Print(%v): %v", c, e)
		}
		wantsParse(t, line, c)
	}
	for _, x := range oddFloats {
		c := lines.Command{Kind: lines.Sample, N: []int64{1, 2}, X: []float64{x}}
		line, _ := lines.Print(c)
		wantsParse(t, line, c)
		if back, _, _ := lines.Parse(line); math.Signbit(back.X[0]) != math.Signbit(x) && !math.IsNaN(x) {
			t.Errorf("%v came back as %v", x, back.X[0])
		}
	}
}

// TestBackAndThere: what Parse takes, of lines that are right but for a few bytes, Print tells byte by byte; both go as the second ways do.
func TestBackAndThere(t *testing.T) {
	r := rand.New(rand.NewSource(245))
	taken := 0
	for range 150000 {
		line := spoiled(r, lineOf(someCommand(r)))
		if !wantsAsRead(t, line) {
			continue
		}
		c, _, _ := lines.Parse(line)
		if again, e := lines.Print(c); again != line || e != api.OK {
			t.Errorf("%q came back as %q, %v", line, again, e)
		}
		taken++
	}
	if taken < 10000 {
		t.Errorf("only %d lines were taken", taken)
	}
}
