package rules

import (
	"iter"
	"math"

	"gnomon/api"
	"gnomon/label"
)

// longest is the length of the longest window, and how far from 0 a rule may be worked out.
const longest = 1 << 62

// The shapes of nodes, by which their fields go, and their texts.
const (
	shapeless  = iota
	literal    // X
	measured   // Name, Labels, Window
	ranked     // these, Num, Den
	calculated // two Args, numbers, which come to a number
	compared   // two Args, numbers, which come to a truth
	joined     // two Args, truths
	negated    // one of Args, a truth
)

// kind is what all nodes of a Kind have in common.
type kind struct {
	shape int
	word  string // by which a text names it
}

// kinds has them by their numbers.
var kinds = [...]kind{
	api.RuleNumber:   {literal, ""},
	api.RuleTotal:    {measured, "total"},
	api.RuleRate:     {measured, "rate"},
	api.RuleCount:    {measured, "count"},
	api.RuleSum:      {measured, "sum"},
	api.RuleLeast:    {measured, "least"},
	api.RuleGreatest: {measured, "greatest"},
	api.RuleQuantile: {ranked, "quantile"},
	api.RulePlus:     {calculated, "+"},
	api.RuleMinus:    {calculated, "-"},
	api.RuleTimes:    {calculated, "*"},
	api.RuleBy:       {calculated, "/"},
	api.RuleLess:     {compared, "<"},
	api.RuleAtMost:   {compared, "<="},
	api.RuleMore:     {compared, ">"},
	api.RuleAtLeast:  {compared, ">="},
	api.RuleEqual:    {compared, "=="},
	api.RuleUnlike:   {compared, "!="},
	api.RuleAnd:      {joined, "and"},
	api.RuleOr:       {joined, "or"},
	api.RuleNot:      {negated, "not"},
}

// kindOf tells what a node's Kind says of it; the shape is none, if there is no such Kind.
func kindOf(x api.Rule) kind {
	if x.Kind < 0 || x.Kind >= len(kinds) {
		return kind{}
	}
	return kinds[x.Kind]
}

// nodes goes through the nodes of a rule, itself first.
func nodes(x api.Rule) iter.Seq[api.Rule] {
	return func(yield func(api.Rule) bool) { goThrough(x, yield) }
}

// goThrough does that, and tells whether it came to the end.
func goThrough(x api.Rule, yield func(api.Rule) bool) bool {
	if !yield(x) {
		return false
	}
	for _, arg := range x.Args {
		if !goThrough(arg, yield) {
			return false
		}
	}
	return true
}

// checkNodes tells what is wrong with a rule, but for numbers and truths in each other's places.
func checkNodes(x api.Rule) api.Errno {
	n := 0
	for range nodes(x) {
		if n == api.MaxNodes {
			return api.ErrMany
		}
		n++
	}
	for node := range nodes(x) {
		if e := checkNode(node); e != api.OK {
			return e
		}
	}
	return api.OK
}

// checkNode tells what is wrong with a node by itself.
func checkNode(x api.Rule) api.Errno {
	shape := kindOf(x).shape
	if shape == shapeless {
		return api.ErrKind
	}
	if !Same(others(x), api.Rule{}) || !holds(x) {
		return api.ErrArg
	}
	if shape == measured || shape == ranked {
		// A rule names a series, whichever kind of instrument that is.
		return label.Check(api.Desc{Kind: api.Counter, Name: x.Name, Labels: x.Labels})
	}
	return api.OK
}

// others tells a node without what counts in it: zero, if the rest is as it must be.
func others(x api.Rule) api.Rule {
	switch kindOf(x).shape {
	case literal:
		x.X = 0
	case ranked:
		x.Num, x.Den = 0, 0
		fallthrough
	case measured:
		x.Name, x.Labels, x.Window = "", nil, 0
	default:
		x.Args = nil
	}
	x.Kind = api.RuleNone
	return x
}

// holds tells whether the numbers that count in a node may be, and how many Args it has.
func holds(x api.Rule) bool {
	switch kindOf(x).shape {
	case literal:
		return math.Abs(x.X) <= math.MaxFloat64
	case measured:
		return isWindow(x.Window)
	case ranked:
		return isWindow(x.Window) && isShare(x.Num, x.Den)
	case negated:
		return len(x.Args) == 1
	}
	return len(x.Args) == 2
}

// isWindow tells whether a window may be so long.
func isWindow(n int64) bool { return n >= 1 && n <= longest }

// isShare tells whether there is such a quantile.
func isShare(num, den int64) bool { return den >= 1 && num >= 0 && num <= den }
