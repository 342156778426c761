package rules_test

import (
	"math"
	"math/rand"
	"testing"

	"gnomon/api"
	"gnomon/ring"
	"gnomon/rules"
)

// P22.5, P22.6.

// TestThereAndBack: what is printed is read as the same rule.
func TestThereAndBack(t *testing.T) {
	r := rand.New(rand.NewSource(228))
	for range 20000 {
		x := someRule(r, r.Intn(2) == 0, 1+r.Intn(200))
		s, e := rules.Print(x)
		if e != api.OK {
			t.Fatalf("%v is not printed: %v", x, e)
		}
		y, e, at := rules.Parse(s)
		if e != api.OK || at != 0 || !rules.Same(x, y) || !same(x, y) {
			t.Fatalf("%q is read as %v, %v, %d, want %v", s, y, e, at, x)
		}
	}
}

// TestFloatsThereAndBack: each Number, bit by bit.
func TestFloatsThereAndBack(t *testing.T) {
	r := rand.New(rand.NewSource(229))
	for range 20000 {
		x := math.Float64frombits(r.Uint64())
		if math.IsNaN(x) || math.IsInf(x, 0) {
			continue
		}
		s, _ := rules.Print(number(x))
		if y, e, _ := rules.Parse(s); e != api.OK || math.Float64bits(y.X) != math.Float64bits(x) || !rules.Same(y, number(x)) {
			t.Fatalf("%v is %q, which is read as %v, %v", x, s, y, e)
		}
	}
}

// TestBackAndThere: what is read is printed as it was, byte by byte; no other text is read as that rule.
func TestBackAndThere(t *testing.T) {
	r := rand.New(rand.NewSource(230))
	taken := 0
	for range 60000 {
		text := textOf(anyRule(r))
		if r.Intn(4) > 0 {
			text = disturb(r, text)
		}
		x, e, _ := rules.Parse(text)
		if e != api.OK {
			continue
		}
		taken++
		if s, e := rules.Print(x); e != api.OK || s != text {
			t.Fatalf("%q is printed as %q, %v", text, s, e)
		}
	}
	if taken < 5000 {
		t.Errorf("only %d were taken", taken)
	}
}

// drawn goes through rings and moments, at some of which much is told.
func drawn(t *testing.T, seed int64, times int, look func(r *rand.Rand, all []held, g *ring.Ring, now int64)) {
	t.Helper()
	r := rand.New(rand.NewSource(seed))
	for range times {
		all := someHeld(r)
		now := one(r, 0, 20, far, -far)
		if len(all) > 0 && r.Intn(5) > 0 {
			now = min(far, max(-far, one(r, all...).at+int64(r.Intn(5))))
		}
		look(r, all, rung(t, all), now)
	}
}

// wantsAlike: two rules come to the same, errors too. It tells the error.
func wantsAlike(t *testing.T, g *ring.Ring, now int64, x, y api.Rule) api.Errno {
	t.Helper()
	a, e := rules.Eval(g, now, x)
	b, f := rules.Eval(g, now, y)
	if e != f || !sameAnswer(a, b) {
		t.Errorf("at %d %s comes to %v, %v, but %s to %v, %v", now, textOf(x), a, e, textOf(y), b, f)
	}
	return e
}

func TestNotOfNotOfAndOfOr(t *testing.T) {
	told := map[api.Errno]int{}
	drawn(t, 231, 5000, func(r *rand.Rand, _ []held, g *ring.Ring, now int64) {
		x, y := someRule(r, true, 1+r.Intn(12)), someRule(r, true, 1+r.Intn(12))
		told[wantsAlike(t, g, now, x, nots(2, x))]++
		told[wantsAlike(t, g, now, not(two(api.RuleAnd, x, y)), two(api.RuleOr, not(x), not(y)))]++
		wantsAlike(t, g, now, not(two(api.RuleOr, x, y)), two(api.RuleAnd, not(x), not(y)))
	})
	for _, e := range []api.Errno{api.OK, api.ErrEmpty, api.ErrAbsent, api.ErrKind} {
		if told[e] < 50 {
			t.Errorf("%v came %d times", e, told[e])
		}
	}
}

// asNumbers tells a rule in which each series that is told a finite number is that Number.
func asNumbers(all []held, now int64, x api.Rule) (api.Rule, int) {
	x = deep(x)
	changed := 0
	for _, n := range places(&x) {
		if f := fields[n.Kind]; f != "S" && f != "SQ" {
			continue
		}
		if told, e := toldOf(all, now, *n); e == api.OK && !math.IsInf(told, 0) {
			*n = number(told)
			changed++
		}
	}
	return x, changed
}

// TestNumbersInTheirPlaces: a rule hangs on the numbers that its series are told, and on nothing else.
func TestNumbersInTheirPlaces(t *testing.T) {
	changed := 0
	drawn(t, 232, 5000, func(r *rand.Rand, all []held, g *ring.Ring, now int64) {
		x := anyRule(r)
		y, n := asNumbers(all, now, x)
		wantsAlike(t, g, now, x, y)
		if changed += n; errorOf(y) != api.OK {
			t.Errorf("the test's own rule may not be: %v", y)
		}
	})
	if changed < 500 {
		t.Errorf("too few were told: %d", changed)
	}
}

// TestWiderWindows: where a window has all of the ring in it, a wider one tells the same, but for Rate.
func TestWiderWindows(t *testing.T) {
	told := 0
	drawn(t, 233, 8000, func(r *rand.Rand, all []held, g *ring.Ring, now int64) {
		if len(all) == 0 || now < all[len(all)-1].at || all[0].at <= now-far+2 {
			return
		}
		least := now - all[0].at + 1
		x := anyRule(r)
		for _, n := range places(&x) {
			if n.Kind == api.RuleRate {
				n.Kind = api.RuleTotal
			}
			if n.Window != 0 {
				n.Window = least
			}
		}
		y := deep(x)
		for _, n := range places(&y) {
			if n.Window != 0 {
				n.Window = one(r, least+1, min(far, least+1000), far)
			}
		}
		if wantsAlike(t, g, now, x, y) == api.OK {
			told++
		}
	})
	if told < 300 {
		t.Errorf("too few were told: %d", told)
	}
}
