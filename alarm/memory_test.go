package alarm_test

import (
	"math/rand"
	"slices"
	"strings"
	"testing"
	"unsafe"

	"gnomon/alarm"
	"gnomon/api"
	"gnomon/snap"
)

// P23.6: R3.

// spacious tells a list as a piece of a longer one, whose other elements are odd.
func spacious[T any](l []T, odd T) []T {
	all := append(append([]T(nil), l...), odd, odd, odd)
	return all[:len(l)]
}

// fill writes over a list, its spare room too.
func fill[T any](l []T, x T) {
	l = l[:cap(l)]
	for i := range l {
		l[i] = x
	}
}

// spoil writes over what a call answered.
func spoil(changes []alarm.Change, status []alarm.Status) {
	fill(changes, alarm.Change{Name: "spoiled", From: -7, To: -7})
	fill(status, alarm.Status{Name: "spoiled", State: -7, Since: -7, E: -7})
}

// TestSpecsAreLeft: specs that were handed in stay as they were, their spare room too; whoever writes over them then changes no board.
func TestSpecsAreLeft(t *testing.T) {
	r := rand.New(rand.NewSource(236))
	for range 300 {
		times := someTimes(r, 10)
		specs := make([]alarm.Spec, r.Intn(5))
		for i := range specs {
			specs[i] = spec(i, someWhile(r, times), someWhile(r, times))
		}
		l := spacious(specs, alarm.Spec{Name: "odd", For: -7})
		was := slices.Clone(l[:cap(l)])
		b, m := made(t, l...), modelOf(specs)
		says := ""
		for i, at := range times {
			if i == 3 && !slices.Equal(l[:cap(l)], was) {
				t.Fatalf("changed: %v, was %v", l[:cap(l)], was)
			}
			if i == 3 {
				fill(l, alarm.Spec{Name: "spoiled", Rule: "(1 < 2)", For: 1, Keep: 1})
			}
			says = someSays(r, len(specs), says)
			stepBoth(t, b, m, at, says)
		}
	}
	// Those that are refused stay, too.
	for _, l := range [][]alarm.Spec{{{Name: "1"}}, {spec(0, 0, 0), spec(0, 0, 0)}, at(3, spec(3, -1, 0)), make([]alarm.Spec, 65)} {
		l = spacious(l, alarm.Spec{Name: "odd", For: -7})
		was := slices.Clone(l[:cap(l)])
		if b, _, _ := alarm.New(l); b != nil || !slices.Equal(l[:cap(l)], was) {
			t.Errorf("changed: %v, was %v", l[:cap(l)], was)
		}
	}
}

// TestOneListForTwoBoards: boards of the same specs have nothing in common.
func TestOneListForTwoBoards(t *testing.T) {
	specs := []alarm.Spec{spec(0, 0, 5)}
	one, two := made(t, specs...), made(t, specs...)
	wantsStep(t, one, 9, "y", turn(alarm.Idle, alarm.Ringing))
	wantsStatus(t, two, stand(alarm.Idle, 0))
	wantsStep(t, two, 3, "n")
	wantsStatus(t, one, stand(alarm.Ringing, 9))
}

// TestAnswersAreTheirOwners: whoever writes over lists that came out, their spare room too, changes no board, no copy and no other list.
func TestAnswersAreTheirOwners(t *testing.T) {
	r := rand.New(rand.NewSource(237))
	told := 0
	for range 300 {
		times := someTimes(r, 12)
		specs := make([]alarm.Spec, r.Intn(5))
		for i := range specs {
			specs[i] = spec(i, someWhile(r, times), someWhile(r, times))
		}
		b, m := made(t, specs...), modelOf(specs)
		u, v := b.Copy(), modelOf(specs)
		var changes []alarm.Change // of the step ahead
		says := ""
		for _, at := range times {
			says = someSays(r, len(specs), says)
			status := b.Status()
			changed, stood := slices.Clone(changes), slices.Clone(status)
			next := stepBoth(t, b, m, at, says)
			// The copy goes the same way.
			told += len(next)
			spoil(stepBoth(t, u, v, at, says), u.Status())
			spoil(nil, b.Copy().Status())
			if !slices.Equal(changes, changed) || !slices.Equal(status, stood) {
				t.Fatalf("%v and %v, were %v and %v", changes, status, changed, stood)
			}
			spoil(changes, status)
			wantsStatus(t, b, m.status()...)
			wantsStatus(t, u, v.status()...)
			changes = next
		}
	}
	if told < 1000 {
		t.Errorf("too little was tried: %d", told)
	}
}

// TestChangesOfTwoSteps: the list that a step told stays as it is, whatever is done then.
func TestChangesOfTwoSteps(t *testing.T) {
	b := made(t, spec(0, 0, 0), spec(1, 0, 0))
	one, _ := b.Step(told(t, 1, "yy"), 1)
	was := slices.Clone(one)
	u := b.Copy()
	two, _ := b.Step(told(t, 2, "nn"), 2)
	three, _ := u.Step(told(t, 2, "ny"), 2)
	if !slices.Equal(one, was) || len(two) != 2 || len(three) != 1 {
		t.Fatalf("%v, was %v; %v, %v", one, was, two, three)
	}
	spoil(two, nil)
	spoil(three, nil)
	_ = append(one[:1], alarm.Change{Name: "odd"})
	wantsStatus(t, b, stand(alarm.Idle, 2), alarm.Status{Name: "alarm1", State: alarm.Idle, Since: 2})
	wantsStatus(t, u, stand(alarm.Idle, 2), alarm.Status{Name: "alarm1", State: alarm.Ringing, Since: 1})
}

// TestNamesAreTheBoards: a name that was handed in may be a piece of a long text, which isn't kept.
func TestNamesAreTheBoards(t *testing.T) {
	text := strings.Clone("a line in which a name stands: busy, and a rule: (1 < 2)")
	name := text[31:35]
	b := made(t, alarm.Spec{Name: name, Rule: "(1 < 2)"})
	changes, _ := b.Step(told(t, 1, ""), 1)
	if len(changes) != 1 || changes[0].Name != "busy" {
		t.Fatalf("%v", changes)
	}
	for _, s := range []string{changes[0].Name, b.Status()[0].Name, b.Copy().Status()[0].Name} {
		if unsafe.StringData(s) == unsafe.StringData(name) {
			t.Errorf("%q is a piece of what was handed in", s)
		}
	}
}

// TestRingsAreLeft: a step changes no ring, and keeps none.
func TestRingsAreLeft(t *testing.T) {
	b := made(t, spec(0, 0, 3), spec(1, 2, 0), alarm.Spec{Name: "wide", Rule: "(total(saa, 100) >= 1)"})
	r := told(t, 10, "yn")
	if e := r.Push(11, api.Snapshot{Precision: 2, Values: []api.Value{{Desc: api.Desc{Kind: api.Counter, Name: "saa"}, Total: api.Int{Lo: 4}}}}); e != api.OK {
		t.Fatal(e)
	}
	times := r.Times()
	was, n, _ := r.Window(0, 100)
	for _, now := range []int64{-far, 5, 10, 11, 12, 12, 200, far, far + 1} {
		b.Step(r, now)
		s, k, e := r.Window(0, 100)
		if e != api.OK || k != n || !snap.Same(s, was) || !slices.Equal(r.Times(), times) {
			t.Fatalf("Step(%d) changed the ring: %v, %d, %v", now, s, k, e)
		}
	}
	// What is pushed into a ring behind a step is seen at the next one over it alone.
	b, r = made(t, spec(0, 0, 0)), told(t, 1, "y")
	wantsStepOver(t, b, r, 1, turn(alarm.Idle, alarm.Ringing))
	if e := r.Push(2, api.Snapshot{Precision: 2}); e != api.OK {
		t.Fatal(e)
	}
	wantsStatus(t, b, stand(alarm.Ringing, 1))
	wantsStep(t, b, 2, "y")
	wantsStepOver(t, b, r, 3, turn(alarm.Ringing, alarm.Idle))
}
