package alarm_test

import (
	"math"
	"math/rand"
	"slices"
	"strconv"
	"strings"
	"testing"

	"gnomon/alarm"
	"gnomon/api"
	"gnomon/label"
	"gnomon/ring"
	"gnomon/rules"
)

const (
	// far is the longest while, and how far from 0 a step may be.
	far   = int64(1) << 62
	first = int64(math.MinInt64)
	last  = int64(math.MaxInt64)
)

// Rings in which rules come to what a test wants.

// What a rule comes to, a letter each.
const (
	yes    = 'y'
	no     = 'n'
	absent = '-' // ErrAbsent
	other  = 'k' // ErrKind
)

// seriesOf tells the name of the series that the rule of the alarm i asks for.
func seriesOf(i int) string { return "s" + string(rune('a'+i/26)) + string(rune('a'+i%26)) }

// ruleOf tells the rule of the alarm i: has its series something at just the time of the step?
func ruleOf(i int) string { return "(total(" + seriesOf(i) + ", 1) > 0)" }

// told tells a ring in which the rule of the alarm i comes at a time to what the letter i says; of no letters an empty one, where all have ErrEmpty.
func told(t *testing.T, at int64, says string) *ring.Ring {
	t.Helper()
	r, e := ring.New(3)
	if e != api.OK {
		t.Fatal(e)
	}
	if says == "" {
		return r
	}
	s := api.Snapshot{Precision: 2}
	for i, what := range says {
		v := api.Value{Desc: api.Desc{Kind: api.Counter, Name: seriesOf(i)}}
		switch what {
		case yes:
			v.Total.Lo = 1
		case other:
			v.Desc.Kind = api.Histogram
		case absent:
			continue
		}
		s.Values = append(s.Values, v)
	}
	if e := r.Push(at, s); e != api.OK {
		t.Fatal(e)
	}
	return r
}

// errorIn tells the error that the rule of the alarm i has in such a ring.
func errorIn(says string, i int) api.Errno {
	switch {
	case says == "":
		return api.ErrEmpty
	case says[i] == absent:
		return api.ErrAbsent
	case says[i] == other:
		return api.ErrKind
	}
	return api.OK
}

// holdsIn tells whether that rule holds in it.
func holdsIn(says string, i int) bool { return says != "" && says[i] == yes }

// Boards.

// spec tells that of the alarm i.
func spec(i int, long, keep int64) alarm.Spec {
	return alarm.Spec{Name: "alarm" + strconv.Itoa(i), Rule: ruleOf(i), For: long, Keep: keep}
}

func made(t *testing.T, l ...alarm.Spec) *alarm.Board {
	t.Helper()
	b, e, at := alarm.New(l)
	if e != api.OK || at != 0 || b == nil {
		t.Fatalf("New(%v): %v, %v, %d", l, b, e, at)
	}
	return b
}

func wantsNew(t *testing.T, l []alarm.Spec, e api.Errno, at int) {
	t.Helper()
	if b, f, i := alarm.New(l); f != e || i != at || (b == nil) != (e != api.OK) {
		t.Errorf("New(%.300v): %v, %v, %d, want %v, %d", l, b != nil, f, i, e, at)
	}
}

// wantsStep does a step where the rule of the alarm i comes to what the letter i says.
func wantsStep(t *testing.T, b *alarm.Board, now int64, says string, want ...alarm.Change) {
	t.Helper()
	wantsStepOver(t, b, told(t, now, says), now, want...)
}

func wantsStepOver(t *testing.T, b *alarm.Board, r *ring.Ring, now int64, want ...alarm.Change) {
	t.Helper()
	if l, e := b.Step(r, now); e != api.OK || !slices.Equal(l, want) {
		t.Errorf("Step(%d): %v, %v, want %v", now, l, e, want)
	}
}

func wantsNoStep(t *testing.T, b *alarm.Board, r *ring.Ring, now int64, e api.Errno) {
	t.Helper()
	if l, f := b.Step(r, now); f != e || len(l) > 0 {
		t.Errorf("Step(%d): %v, %v, want %v", now, l, f, e)
	}
}

func wantsStatus(t *testing.T, b *alarm.Board, want ...alarm.Status) {
	t.Helper()
	if l := b.Status(); !slices.Equal(l, want) {
		t.Errorf("Status: %v, want %v", l, want)
	}
}

// turn tells a change of the alarm 0.
func turn(from, to int) alarm.Change { return alarm.Change{Name: "alarm0", From: from, To: to} }

// stand tells a status of the alarm 0.
func stand(state int, since int64) alarm.Status {
	return alarm.Status{Name: "alarm0", State: state, Since: since}
}

// The chapter's words once more.

// errorOf tells what is wrong with specs, and with which.
func errorOf(l []alarm.Spec) (api.Errno, int) {
	if len(l) >= 65 {
		return api.ErrMany, 64
	}
	for i, s := range l {
		x, e, _ := rules.Parse(s.Rule)
		is, _ := rules.Type(x)
		switch {
		case !label.Name(s.Name):
			return api.ErrName, i
		case slices.IndexFunc(l, func(o alarm.Spec) bool { return o.Name == s.Name }) < i:
			return api.ErrTwice, i
		case e != api.OK:
			return e, i
		case !is:
			return api.ErrType, i
		case s.For < 0 || s.For > far || s.Keep < 0 || s.Keep > far:
			return api.ErrArg, i
		}
	}
	return api.OK, 0
}

// moment is what was at a step.
type moment struct {
	at   int64
	held bool
	e    api.Errno
}

// lasted tells whether at each step from some one that is not ahead of the step `from` to the step n a rule held (or didn't), for so long.
func lasted(l []moment, from, n int, held bool, long int64) bool {
	for i := n; i >= from && l[i].held == held; i-- {
		// Of two times that rise this is how far they are apart, whatever they are.
		if uint64(l[n].at)-uint64(l[i].at) >= uint64(long) {
			return true
		}
	}
	return false
}

// rings tells whether an alarm rings behind some steps: P23.5, which knows of no states.
func rings(l []moment, long, keep int64) bool {
	for j := range l {
		if !lasted(l, 0, j, true, long) {
			continue
		}
		over := false
		for b := j + 1; b < len(l) && !over; b++ {
			over = lasted(l, j+1, b, false, keep)
		}
		if !over {
			return true
		}
	}
	return false
}

// stateOf tells which state that is: it is told by whether it rings, and whether the rule holds.
func stateOf(l []moment, long, keep int64) int {
	is := rings(l, long, keep)
	switch held := len(l) > 0 && l[len(l)-1].held; {
	case is && held:
		return alarm.Ringing
	case is:
		return alarm.Fading
	case held:
		return alarm.Waiting
	}
	return alarm.Idle
}

// model is a second answer: of each alarm all that was, and the states behind all steps.
type model struct {
	specs  []alarm.Spec
	was    [][]moment
	states [][]int
}

func modelOf(l []alarm.Spec) *model {
	return &model{specs: l, was: make([][]moment, len(l)), states: make([][]int, len(l))}
}

// step tells the changes.
func (m *model) step(at int64, says string) []alarm.Change {
	var changes []alarm.Change
	for i, s := range m.specs {
		from := stateOf(m.was[i], s.For, s.Keep)
		m.was[i] = append(m.was[i], moment{at: at, held: holdsIn(says, i), e: errorIn(says, i)})
		to := stateOf(m.was[i], s.For, s.Keep)
		m.states[i] = append(m.states[i], to)
		if from != to {
			changes = append(changes, alarm.Change{Name: s.Name, From: from, To: to})
		}
	}
	return changes
}

// status tells it by all that was: the moment is that of the first one of the steps up to the last one behind which the state was the same.
func (m *model) status() []alarm.Status {
	var all []alarm.Status
	for i, s := range m.specs {
		told := alarm.Status{Name: s.Name, State: alarm.Idle}
		if n := len(m.states[i]); n > 0 {
			told.State, told.E = m.states[i][n-1], m.was[i][n-1].e
			for n > 0 && m.states[i][n-1] == told.State {
				n--
			}
			if n > 0 || told.State != alarm.Idle {
				told.Since = m.was[i][n].at
			}
		}
		all = append(all, told)
	}
	return all
}

// copied tells another one of the same.
func (m *model) copied() *model {
	c := modelOf(m.specs)
	for i := range m.specs {
		c.was[i] = slices.Clone(m.was[i])
		c.states[i] = slices.Clone(m.states[i])
	}
	return c
}

// stepBoth does a step of a board and of its model, which must agree.
func stepBoth(t *testing.T, b *alarm.Board, m *model, at int64, says string) []alarm.Change {
	t.Helper()
	want := m.step(at, says)
	l, e := b.Step(told(t, at, says), at)
	if e != api.OK || !slices.Equal(l, want) {
		t.Fatalf("%v: Step(%d) of %q behind %v: %v, %v, want %v", m.specs, at, says, m.was, l, e, want)
	}
	if l, want := b.Status(), m.status(); !slices.Equal(l, want) {
		t.Fatalf("%v: Status behind %v: %v, want %v", m.specs, m.was, l, want)
	}
	return l
}

// Things that are drawn.

// someSays draws what the rules of n alarms come to: what was, more often than not.
func someSays(r *rand.Rand, n int, was string) string {
	if r.Intn(40) == 0 {
		return ""
	}
	var out strings.Builder
	for i := range n {
		if was != "" && r.Intn(3) > 0 {
			out.WriteByte(was[i])
			continue
		}
		out.WriteByte("yyyyynnn-k"[r.Intn(10)])
	}
	return out.String()
}

// someTimes draws n times that rise: near each other, or as far apart as they can be.
func someTimes(r *rand.Rand, n int) []int64 {
	times := make([]int64, 0, n)
	if r.Intn(3) == 0 {
		for range n {
			times = append(times, r.Int63n(far)*2-far+r.Int63n(2))
		}
		times[0], times[n-1] = -far, far
		slices.Sort(times)
		return slices.Compact(times)
	}
	at := []int64{-far, -5, 0, 7, far - 100*int64(n)}[r.Intn(5)]
	for range n {
		times = append(times, at)
		at += 1 + r.Int63n(1+r.Int63n(4))
	}
	return times
}

// someWhile draws how long it must be, for such times.
func someWhile(r *rand.Rand, times []int64) int64 {
	switch r.Intn(4) {
	case 0:
		return 0
	case 1:
		// Just as far as two of them are apart, one more, or one less.
		i := r.Intn(len(times))
		j := min(i+r.Intn(8), len(times)-1)
		if d := uint64(times[j]) - uint64(times[i]); d < uint64(far) {
			return max(0, int64(d)+r.Int63n(3)-1)
		}
		return far
	case 2:
		return r.Int63n(12)
	}
	return min(far, max(0, times[min(4, len(times)-1)]/2-times[0]/2))
}
