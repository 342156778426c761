package rules

import (
	"strconv"
	"strings"

	"gnomon/api"
	"gnomon/label"
	"gnomon/real"
)

// What a rule's first byte says of it.
const (
	noRule = iota
	twoArgs
	aNumber
	aWord
)

// reader goes through a text from the left. At the first thing that is wrong it stays: e is its error, and at its place.
type reader struct {
	text  string
	at    int
	e     api.Errno
	nodes int // how many were begun
}

// whole reads all of the text as a rule.
func (r *reader) whole() api.Rule {
	x := r.rule()
	if r.rest() != "" {
		r.fail(api.ErrForm, r.at)
	}
	return x
}

// rest tells what was not gone through yet. Where something is wrong it is as if the text ended: so whoever reads on comes to an end, and need not ask.
func (r *reader) rest() string {
	if r.e != api.OK {
		return ""
	}
	return r.text[r.at:]
}

// fail keeps what is wrong, if nothing was so far.
func (r *reader) fail(e api.Errno, at int) {
	if r.e == api.OK {
		r.e, r.at = e, at
	}
}

// pass goes past so many bytes.
func (r *reader) pass(n int) {
	if r.e == api.OK {
		r.at += n
	}
}

// must goes past a text that must stand here; what is wrong is the first byte that is another one.
func (r *reader) must(s string) {
	for i := range len(s) {
		if !strings.HasPrefix(r.rest(), s[i:i+1]) {
			r.fail(api.ErrForm, r.at)
		}
		r.pass(1)
	}
}

// row tells the longest row of bytes of a kind that stands here, and does not go past it.
func (r *reader) row(is func(c byte) bool) string {
	rest := r.rest()
	n := 0
	for n < len(rest) && is(rest[n]) {
		n++
	}
	return rest[:n]
}

// rule reads the rule that must stand here.
func (r *reader) rule() api.Rule {
	if r.nodes == api.MaxNodes {
		r.fail(api.ErrMany, r.at)
	}
	r.nodes++
	switch begins(r.rest()) {
	case twoArgs:
		return r.two()
	case aNumber:
		return r.number()
	case aWord:
		return r.word()
	}
	r.fail(api.ErrForm, r.at)
	return api.Rule{}
}

// begins tells what the first byte of a text says of the rule there.
func begins(s string) int {
	switch {
	case s == "":
		return noRule
	case s[0] == '(':
		return twoArgs
	case s[0] == '-' || isDigit(s[0]):
		return aNumber
	case isLetter(s[0]):
		return aWord
	}
	return noRule
}

// two reads a rule of two Args.
func (r *reader) two() api.Rule {
	r.must("(")
	first := r.rule()
	r.must(" ")
	kind := r.named(ofSign, calculated, compared, joined)
	r.must(" ")
	second := r.rule()
	r.must(")")
	return api.Rule{Kind: kind, Args: []api.Rule{first, second}}
}

// number reads a float.
func (r *reader) number() api.Rule {
	row := r.row(ofNumber)
	x, e := real.Parse(row)
	if e != api.OK {
		r.fail(e, r.at)
	}
	r.pass(len(row))
	return api.Rule{Kind: api.RuleNumber, X: x}
}

// word reads a rule that begins with a word.
func (r *reader) word() api.Rule {
	x := api.Rule{Kind: r.named(isLetter, measured, ranked, negated)}
	r.must("(")
	shape := kindOf(x).shape
	if shape == negated {
		x.Args = []api.Rule{r.rule()}
	} else {
		if shape == ranked {
			x.Num, x.Den = r.share()
		}
		x.Name, x.Labels = r.series()
		x.Window = r.window()
	}
	r.must(")")
	return x
}

// named reads the word of a Kind of one of these shapes, a row of bytes of a kind.
func (r *reader) named(is func(c byte) bool, shapes ...int) int {
	row := r.row(is)
	for number, k := range kinds {
		for _, shape := range shapes {
			if k.shape == shape && k.word == row {
				r.pass(len(row))
				return number
			}
		}
	}
	r.fail(api.ErrForm, r.at)
	return api.RuleNone
}

// share reads which quantile is asked for, and the comma behind it.
func (r *reader) share() (num, den int64) {
	num = r.count()
	r.must("/")
	at := r.at
	den = r.count()
	if !isShare(num, den) {
		r.fail(api.ErrArg, at)
	}
	r.must(", ")
	return num, den
}

// series reads a series, and the comma behind it.
func (r *reader) series() (string, []api.Label) {
	n := seriesLength(r.rest())
	name, labels, e, at := label.Parse(r.rest()[:n])
	if e != api.OK {
		r.fail(e, r.at+at)
	}
	r.pass(n)
	r.must(", ")
	return name, labels
}

// seriesLength tells how many bytes of a text stand ahead of the first comma and blank that no quotes enclose.
func seriesLength(s string) int {
	quoted := false
	for i := 0; i < len(s); i++ {
		switch {
		case s[i] == '"':
			quoted = !quoted
		case quoted && s[i] == '\\':
			// What is escaped, a quote too, is part of the value.
			i++
		case !quoted && strings.HasPrefix(s[i:], ", "):
			return i
		}
	}
	return len(s)
}

// window reads the length of a window.
func (r *reader) window() int64 {
	at := r.at
	n := r.count()
	if !isWindow(n) {
		r.fail(api.ErrArg, at)
	}
	return n
}

// count reads a whole number from 0 on.
func (r *reader) count() int64 {
	row := r.row(isDigit)
	n, err := strconv.ParseInt(row, 10, 64)
	// The library reads a row that begins with zeros, too: only the one that the number is told in is its text.
	if err != nil || digits(n) != row {
		r.fail(api.ErrForm, r.at)
	}
	r.pass(len(row))
	return n
}

func isDigit(c byte) bool { return '0' <= c && c <= '9' }

func isLetter(c byte) bool { return 'a' <= c && c <= 'z' }

func ofNumber(c byte) bool { return isDigit(c) || strings.IndexByte(".e-", c) >= 0 }

func ofSign(c byte) bool { return isLetter(c) || strings.IndexByte("+-*/<>=!", c) >= 0 }
