package rules

import (
	"strconv"
	"strings"

	"gnomon/api"
	"gnomon/label"
	"gnomon/real"
)

// write writes the text of a rule that may be.
func write(out *strings.Builder, x api.Rule) {
	k := kindOf(x)
	switch k.shape {
	case literal:
		out.WriteString(real.Print(x.X))
	case measured, ranked:
		writeMeasure(out, k, x)
	case negated:
		out.WriteString(k.word + "(")
		write(out, x.Args[0])
		out.WriteString(")")
	default:
		out.WriteString("(")
		write(out, x.Args[0])
		out.WriteString(" " + k.word + " ")
		write(out, x.Args[1])
		out.WriteString(")")
	}
}

// writeMeasure writes the text of what is told of a series.
func writeMeasure(out *strings.Builder, k kind, x api.Rule) {
	out.WriteString(k.word + "(")
	if k.shape == ranked {
		out.WriteString(digits(x.Num) + "/" + digits(x.Den) + ", ")
	}
	out.WriteString(label.Print(x.Name, x.Labels) + ", " + digits(x.Window) + ")")
}

// digits tells a whole number's text.
func digits(n int64) string { return strconv.FormatInt(n, 10) }
