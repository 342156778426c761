package alarm

import (
	"slices"
	"strings"

	"gnomon/api"
	"gnomon/label"
	"gnomon/ring"
	"gnomon/rules"
)

// alarm is one of a board's: what its spec says, and how it stands.
type alarm struct {
	name  string
	rule  api.Rule
	wait  int64 // the spec's For
	keep  int64
	state int
	since int64
	e     api.Errno // of the rule, at the last step
}

// made makes the alarm of a spec, if it may stand behind those that are there.
func (b *Board) made(s Spec) (alarm, api.Errno) {
	if !label.Name(s.Name) {
		return alarm{}, api.ErrName
	}
	if slices.ContainsFunc(b.alarms, func(a alarm) bool { return a.name == s.Name }) {
		return alarm{}, api.ErrTwice
	}
	rule, e, _ := rules.Parse(s.Rule)
	if e != api.OK {
		return alarm{}, e
	}
	if is, _ := rules.Type(rule); !is {
		return alarm{}, api.ErrType
	}
	if !isWhile(s.For) || !isWhile(s.Keep) {
		return alarm{}, api.ErrArg
	}
	// The name may be a piece of a long text, which would be kept with it.
	return alarm{name: strings.Clone(s.Name), rule: rule, wait: s.For, keep: s.Keep, state: Idle}, api.OK
}

// isWhile tells whether a while may be so long.
func isWhile(n int64) bool { return n >= 0 && n <= longest }

// step brings it into the state in which it is at a time.
func (a *alarm) step(r *ring.Ring, now int64) {
	answer, e := rules.Eval(r, now, a.rule)
	a.e = e
	// Beside an error the answer is no truth, so the rule doesn't hold.
	next := ways()[a.state](*a, answer.Is, now)
	if next != a.state {
		a.state, a.since = next, now
	}
}

// ways tells by an alarm's state which way it goes from there.
func ways() [Fading + 1]func(a alarm, holds bool, now int64) int {
	return [...]func(alarm, bool, int64) int{
		Idle:    alarm.fromIdle,
		Waiting: alarm.fromWaiting,
		Ringing: alarm.fromRinging,
		Fading:  alarm.fromFading,
	}
}

func (a alarm) fromIdle(holds bool, now int64) int {
	if !holds {
		return Idle
	}
	if a.wait == 0 {
		return Ringing
	}
	return Waiting
}

func (a alarm) fromWaiting(holds bool, now int64) int {
	if !holds {
		return Idle
	}
	if a.lasted(a.wait, now) {
		return Ringing
	}
	return Waiting
}

func (a alarm) fromRinging(holds bool, now int64) int {
	if holds {
		return Ringing
	}
	if a.keep == 0 {
		return Idle
	}
	return Fading
}

func (a alarm) fromFading(holds bool, now int64) int {
	if holds {
		return Ringing
	}
	if a.lasted(a.keep, now) {
		return Idle
	}
	return Fading
}

// lasted tells whether it has been in its state for so long. Two times can lie too far apart for an int64; now less a while can't.
func (a alarm) lasted(long, now int64) bool { return a.since <= now-long }

// copied tells a rule with lists of its own.
func copied(x api.Rule) api.Rule {
	x.Labels = append([]api.Label(nil), x.Labels...)
	x.Args = append([]api.Rule(nil), x.Args...)
	for i := range x.Args {
		x.Args[i] = copied(x.Args[i])
	}
	return x
}
