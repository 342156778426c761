package lines

import "strings"

// The parts of a line, a letter each.
const (
	aNumber = 'n'
	aFloat  = 'x'
	aText   = 's'
)

// kind is what all commands of a Kind have in common.
type kind struct {
	word  string
	parts string // in the order in which they stand in the line
	// do does a command of a line that was read, and tells what the answer has behind `ok`.
	do func(s *session, c Command) []string
}

// kinds has them by their numbers.
func kinds() [Load + 1]kind {
	return [...]kind{
		Make:      {"make", "nnnn", (*session).begin},
		Counter:   {"counter", "ss", (*session).counter},
		Histogram: {"histogram", "ss", (*session).histogram},
		Summary:   {"summary", "ss", (*session).summary},
		Recorder:  {"recorder", "", (*session).recorder},
		Release:   {"release", "n", (*session).release},
		Add:       {"add", "nnn", (*session).add},
		Observe:   {"observe", "nnn", (*session).observe},
		Sample:    {"sample", "nnx", (*session).sample},
		Reset:     {"reset", "n", (*session).reset},
		Text:      {"text", "", (*session).text},
		Window:    {"window", "nn", (*session).window},
		Rate:      {"rate", "snn", (*session).rate},
		Quantile:  {"quantile", "snnnn", (*session).quantile},
		Eval:      {"eval", "ns", (*session).eval},
		Alarm:     {"alarm", "snns", (*session).alarm},
		Board:     {"board", "", (*session).renew},
		Step:      {"step", "n", (*session).step},
		Status:    {"status", "", (*session).status},
		Load:      {"load", "s", (*session).load},
	}
}

// kindOf tells what a command's Kind says of it; the word is empty, if there is no such Kind.
func kindOf(c Command) kind {
	if c.Kind < 0 || c.Kind > Load {
		return kind{}
	}
	return kinds()[c.Kind]
}

// named tells the Kind of a word; None, if there is no such one, whose word is the empty one.
func named(word string) int {
	for number, k := range kinds() {
		if k.word == word {
			return number
		}
	}
	return None
}

// fits tells whether a command has as many parts of each sort as its Kind asks for.
func (k kind) fits(c Command) bool {
	return len(c.N) == k.many(aNumber) && len(c.X) == k.many(aFloat) && len(c.S) == k.many(aText)
}

// many tells how many parts of a sort there are.
func (k kind) many(part rune) int { return strings.Count(k.parts, string(part)) }
