package rules

import (
	"gnomon/api"
	"gnomon/ring"
	"gnomon/snap"
	"gnomon/wide"
)

// moment is where and when a rule is worked out.
type moment struct {
	ring *ring.Ring
	now  int64
}

// node is a part of a rule that may be, ready to be worked out.
type node interface {
	// work tells what it comes to, or the first error that is met.
	work(m moment) (api.Answer, api.Errno)
}

// The nodes' types; what they are made of is of the right type, a number or a truth.
type (
	// constant is a number.
	constant float64
	// measure is a number told of a series in a window.
	measure struct{ asked api.Rule }
	// calculation is a number that two numbers come to.
	calculation struct {
		kind          int
		first, second node
	}
	// comparison is a truth that two numbers come to.
	comparison struct {
		kind          int
		first, second node
	}
	// junction is a truth that two truths come to. The first one alone says it, if it is the one that settles it.
	junction struct {
		settles       bool
		first, second node
	}
	// negation is the other truth.
	negation struct{ arg node }
)

// made makes the node of a rule, if that may be.
func made(x api.Rule) (node, api.Errno) {
	if e := checkNodes(x); e != api.OK {
		return nil, e
	}
	return typed(x)
}

// typed makes the node of a rule of which each node by itself may be.
func typed(x api.Rule) (node, api.Errno) {
	var args []node
	shape := kindOf(x).shape
	for _, arg := range x.Args {
		n, e := typed(arg)
		if e != api.OK {
			return nil, e
		}
		if isTruth(n) != (shape == joined || shape == negated) {
			return nil, api.ErrType
		}
		args = append(args, n)
	}
	switch shape {
	case literal:
		return constant(x.X), api.OK
	case calculated:
		return calculation{kind: x.Kind, first: args[0], second: args[1]}, api.OK
	case compared:
		return comparison{kind: x.Kind, first: args[0], second: args[1]}, api.OK
	case joined:
		return junction{settles: x.Kind == api.RuleOr, first: args[0], second: args[1]}, api.OK
	case negated:
		return negation{arg: args[0]}, api.OK
	}
	return measure{asked: x}, api.OK
}

// isTruth tells whether a node comes to a truth; else it comes to a number.
func isTruth(n node) bool {
	switch n.(type) {
	case comparison, junction, negation:
		return true
	}
	return false
}

func number(x float64) api.Answer { return api.Answer{X: x} }

func truth(is bool) api.Answer { return api.Answer{Truth: true, Is: is} }

func (n constant) work(moment) (api.Answer, api.Errno) { return number(float64(n)), api.OK }

func (n measure) work(m moment) (api.Answer, api.Errno) {
	s, _, e := m.ring.Window(m.now-n.asked.Window, m.now)
	if e != api.OK {
		return api.Answer{}, e
	}
	v, e := snap.Find(s, n.asked.Name, n.asked.Labels)
	if e != api.OK {
		return api.Answer{}, e
	}
	if !asksFor(n.asked.Kind, v.Desc.Kind) {
		return api.Answer{}, api.ErrKind
	}
	x, e := told(n.asked, s, v)
	if e != api.OK {
		return api.Answer{}, e
	}
	return number(x), api.OK
}

func (n calculation) work(m moment) (api.Answer, api.Errno) {
	a, b, e := both(m, n.first, n.second)
	if e != api.OK {
		return api.Answer{}, e
	}
	return number(result(n.kind, a, b)), api.OK
}

func (n comparison) work(m moment) (api.Answer, api.Errno) {
	a, b, e := both(m, n.first, n.second)
	if e != api.OK {
		return api.Answer{}, e
	}
	return truth(stands(n.kind, a, b)), api.OK
}

func (n junction) work(m moment) (api.Answer, api.Errno) {
	first, e := n.first.work(m)
	if e != api.OK || first.Is == n.settles {
		return first, e
	}
	return n.second.work(m)
}

func (n negation) work(m moment) (api.Answer, api.Errno) {
	arg, e := n.arg.work(m)
	if e != api.OK {
		return api.Answer{}, e
	}
	return truth(!arg.Is), api.OK
}

// asksFor tells whether a kind of node is told of instruments of a kind.
func asksFor(kind, instrument int) bool {
	switch kind {
	case api.RuleTotal, api.RuleRate:
		return instrument == api.Counter
	case api.RuleLeast, api.RuleGreatest:
		return instrument == api.Summary
	case api.RuleQuantile:
		return instrument == api.Histogram
	}
	return instrument == api.Histogram || instrument == api.Summary
}

// told tells what is asked of a value of a snapshot, whose kind is right.
func told(asked api.Rule, s api.Snapshot, v api.Value) (float64, api.Errno) {
	switch asked.Kind {
	case api.RuleTotal:
		return wide.Float(v.Total), api.OK
	case api.RuleRate:
		return wide.Float(v.Total) / float64(asked.Window), api.OK
	case api.RuleCount:
		return float64(v.N), api.OK
	case api.RuleSum:
		return sum(v), api.OK
	case api.RuleQuantile:
		high, e := snap.Quantile(s, asked.Name, asked.Labels, asked.Num, asked.Den)
		return float64(high), e
	}
	if v.N == 0 {
		return 0, api.ErrEmpty
	}
	if asked.Kind == api.RuleLeast {
		return v.Min, api.OK
	}
	return v.Max, api.OK
}

// sum tells that of a histogram or a summary.
func sum(v api.Value) float64 {
	if v.Desc.Kind == api.Histogram {
		return wide.Float(v.Total)
	}
	return v.Sum
}

// both works two numbers out, the first one first.
func both(m moment, first, second node) (a, b float64, e api.Errno) {
	x, e := first.work(m)
	if e != api.OK {
		return 0, 0, e
	}
	y, e := second.work(m)
	if e != api.OK {
		return 0, 0, e
	}
	return x.X, y.X, api.OK
}

// result tells what two numbers come to. The conversions keep what is worked out here from being rounded together with what is done with it then.
func result(kind int, a, b float64) float64 {
	switch kind {
	case api.RulePlus:
		return float64(a + b)
	case api.RuleMinus:
		return float64(a - b)
	case api.RuleTimes:
		return float64(a * b)
	}
	return float64(a / b)
}

// stands tells whether two numbers stand as a comparison says.
func stands(kind int, a, b float64) bool {
	switch kind {
	case api.RuleLess:
		return a < b
	case api.RuleAtMost:
		return a <= b
	case api.RuleMore:
		return a > b
	case api.RuleAtLeast:
		return a >= b
	case api.RuleEqual:
		return a == b
	}
	return a != b
}
