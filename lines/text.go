package lines

import (
	"strconv"
	"strings"

	"gnomon/real"
)

// joined tells a line: its word, and a blank ahead of each part.
func joined(word string, parts []string) string {
	var out strings.Builder
	out.WriteString(word)
	for _, part := range parts {
		out.WriteByte(' ')
		out.WriteString(part)
	}
	return out.String()
}

// written tells the parts of a command, in the order in which they stand in its line.
func (k kind) written(c Command) []string {
	var parts []string
	n, x, s := 0, 0, 0
	for _, part := range k.parts {
		switch part {
		case aNumber:
			parts = append(parts, digits(c.N[n]))
			n++
		case aFloat:
			parts = append(parts, real.Print(c.X[x]))
			x++
		case aText:
			parts = append(parts, quoted(c.S[s]))
			s++
		}
	}
	return parts
}

// length tells how many bytes texts have.
func length(l []string) int {
	n := 0
	for _, s := range l {
		n += len(s)
	}
	return n
}

// digits tells how a number is written.
func digits(n int64) string { return strconv.FormatInt(n, 10) }

// quoted tells how a text is written. It is gone through byte by byte, for it need not be made of letters.
func quoted(s string) string {
	out := []byte{'"'}
	for i := range len(s) {
		out = appendWritten(out, s[i])
	}
	return string(append(out, '"'))
}

// appendWritten writes a byte of a text, in the one way in which it is written.
func appendWritten(out []byte, c byte) []byte {
	const sixteen = "0123456789abcdef"
	switch {
	case c == '"' || c == '\\':
		return append(out, '\\', c)
	case isPlain(rune(c)):
		return append(out, c)
	}
	return append(out, '\\', 'x', sixteen[c>>4], sixteen[c&15])
}

// escaped tells which byte is written by the escape that a text begins with, and how long that is; 0, if there is none.
func escaped(s string) (c byte, n int) {
	switch {
	case len(s) >= 2 && (s[1] == '"' || s[1] == '\\'):
		return s[1], 2
	case len(s) < 4:
		return 0, 0
	}
	said, err := strconv.ParseUint(s[2:4], 16, 8)
	// The library reads other digits, too, and each byte has one way to be written.
	if err != nil || string(appendWritten(nil, byte(said))) != s[:4] {
		return 0, 0
	}
	return byte(said), 4
}

// isPlain tells whether a letter may stand in a text as it is.
func isPlain(letter rune) bool { return ' ' <= letter && letter <= '~' }
