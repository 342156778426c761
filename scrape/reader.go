package scrape

import (
	"strings"

	"gnomon/api"
	"gnomon/label"
	"gnomon/real"
	"gnomon/wide"
)

// reader goes through a text line by line. At the first line that is wrong whoever reads gives up: it panics with a fault, and with nothing else.
type reader struct {
	rest string // the lines that were not read yet
	line int    // the number of the one that was read last
}

// fault is what is wrong with a text, and the number of the line that it is told with.
type fault struct {
	e    api.Errno
	line int
}

// must gives up, if the line that was read last is not of the form that must stand there.
func (r *reader) must(is bool) {
	if !is {
		panic(fault{e: api.ErrForm, line: r.line})
	}
}

// next reads a line.
func (r *reader) next() string {
	r.line++
	line, rest, ended := strings.Cut(r.rest, "\n")
	r.must(ended)
	r.rest = rest
	return line
}

// behind tells what stands behind a text's beginning, which must be that.
func (r *reader) behind(text, beginning string) string {
	rest, is := strings.CutPrefix(text, beginning)
	r.must(is)
	return rest
}

// numbered reads a line of a series: the series' text, and the number's.
func (r *reader) numbered() (series, number string) {
	line := r.next()
	// Values of labels may have blanks, numbers have none.
	at := strings.LastIndex(line, " ")
	r.must(at >= 0)
	return line[:at], line[at+1:]
}

// number reads a line of a series, which must be that one, and tells the number's text.
func (r *reader) number(name string, l []api.Label) string {
	series, number := r.numbered()
	r.must(series == label.Print(name, l))
	return number
}

// more reads a line of a series with one label more, which stands last: what is ahead of that label, its value, and the number's text.
func (r *reader) more(name string) (ahead, value, number string) {
	series, number := r.numbered()
	text, closed := strings.CutSuffix(series, `"}`)
	begins := name + `="`
	// The label's own value has no quotes: so whatever stands ahead of its last beginning is the others'.
	at := strings.LastIndex(text, begins)
	r.must(closed && at >= 0)
	return text[:at], text[at+len(begins):], number
}

// labels tells the labels of a series' text, which must be of that name.
func (r *reader) labels(name, series string) []api.Label {
	got, l, e, _ := label.Parse(series)
	r.must(e == api.OK && got == name)
	return l
}

// others tells the labels of a series of that name, of which the text stands ahead of the one label more, behind a brace.
func (r *reader) others(name, text string) []api.Label {
	if text == "" {
		return nil
	}
	l, is := strings.CutSuffix(text, ",")
	r.must(is)
	return r.labels(name, name+"{"+l+"}")
}

// whole tells a number from 0 to 2^64 - 1.
func (r *reader) whole(text string) uint64 {
	n := r.wide(text)
	r.must(n.Hi == 0)
	return n.Lo
}

// wide tells a number of 128 bits.
func (r *reader) wide(text string) api.Int {
	n, e := wide.Parse(text)
	r.must(e == api.OK)
	return n
}

// float tells a float.
func (r *reader) float(text string) float64 {
	x, e := real.Parse(text)
	r.must(e == api.OK)
	return x
}
