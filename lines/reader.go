package lines

import (
	"strconv"
	"strings"

	"gnomon/api"
	"gnomon/real"
)

// reader goes through a line from the left. At the first thing that is wrong it gives up: it panics with a fault, and with nothing else.
type reader struct {
	line string
	at   int
}

// fault is the place of what is wrong.
type fault int

// rest tells what was not gone through yet.
func (r *reader) rest() string { return r.line[r.at:] }

// must gives up here, if something is not as it must be.
func (r *reader) must(is bool) {
	if !is {
		panic(fault(r.at))
	}
}

// pass goes past a text that must stand here.
func (r *reader) pass(s string) {
	r.must(strings.HasPrefix(r.rest(), s))
	r.at += len(s)
}

// row tells the longest row of letters of a sort that stands here.
func (r *reader) row(is func(letter rune) bool) string {
	for i, letter := range r.rest() {
		if !is(letter) {
			return r.rest()[:i]
		}
	}
	return r.rest()
}

// command reads the whole line.
func (r *reader) command() Command {
	word := r.row(isSmall)
	c := Command{Kind: named(word)}
	r.must(c.Kind != None)
	r.pass(word)
	for _, part := range kindOf(c).parts {
		r.pass(" ")
		switch part {
		case aNumber:
			c.N = append(c.N, r.number())
		case aFloat:
			c.X = append(c.X, r.float())
		case aText:
			c.S = append(c.S, r.text())
		}
	}
	r.must(r.rest() == "")
	return c
}

// number reads a whole number.
func (r *reader) number() int64 {
	row := r.row(ofNumber)
	n, err := strconv.ParseInt(row, 10, 64)
	// The library reads a row that begins with zeros, too, and -0: only the one in which the number is written is taken.
	r.must(err == nil && digits(n) == row)
	r.pass(row)
	return n
}

// float reads a float.
func (r *reader) float() float64 {
	row := r.row(ofFloat)
	x, e := real.Parse(row)
	r.must(e == api.OK)
	r.pass(row)
	return x
}

// text reads a text, and both of its quotes.
func (r *reader) text() string {
	r.pass(`"`)
	var said strings.Builder
	from, behind := r.at, r.at
	for i, letter := range r.rest() {
		r.at = from + i
		switch {
		case r.at < behind:
			// It is part of the escape that was read.
		case letter == '"':
			r.at++
			return said.String()
		case letter == '\\':
			c, n := escaped(r.rest())
			r.must(n > 0)
			said.WriteByte(c)
			behind = r.at + n
		default:
			r.must(isPlain(letter))
			said.WriteByte(byte(letter))
		}
	}
	panic(fault(len(r.line)))
}

func isSmall(letter rune) bool { return 'a' <= letter && letter <= 'z' }

func isDigit(letter rune) bool { return '0' <= letter && letter <= '9' }

func ofNumber(letter rune) bool { return isDigit(letter) || letter == '-' }

func ofFloat(letter rune) bool {
	great := 'A' <= letter && letter <= 'Z'
	return ofNumber(letter) || isSmall(letter) || great || letter == '+' || letter == '.'
}
