package alarm_test

import (
	"math/rand"
	"slices"
	"strings"
	"testing"

	"gnomon/alarm"
	"gnomon/api"
	"gnomon/ring"
)

// counted tells a ring with a counter c that is n since the time 10.
func counted(t *testing.T, n uint64) *ring.Ring {
	t.Helper()
	r, _ := ring.New(2)
	if e := r.Push(10, api.Snapshot{Precision: 2, Values: []api.Value{{Desc: api.Desc{Kind: api.Counter, Name: "c"}, Total: api.Int{Lo: n}}}}); e != api.OK {
		t.Fatal(e)
	}
	return r
}

// x and y are those of the chapter's examples.
func x() alarm.Spec {
	return alarm.Spec{Name: "x", Rule: "(total(c, 1000) > 4)", For: 10, Keep: 5}
}

func y() alarm.Spec { return alarm.Spec{Name: "y", Rule: "(total(d, 1000) > 0)"} }

func TestExamples(t *testing.T) {
	turn := func(from, to int) alarm.Change { return alarm.Change{Name: "x", From: from, To: to} }
	five, one := counted(t, 5), counted(t, 1)
	b := made(t, x(), y())
	wantsStepOver(t, b, five, 5)
	wantsStatus(t, b, alarm.Status{Name: "x", State: alarm.Idle, E: api.ErrEmpty}, alarm.Status{Name: "y", State: alarm.Idle, E: api.ErrEmpty})
	wantsNoStep(t, b, five, 5, api.ErrOrder)
	wantsStepOver(t, b, five, 20, turn(alarm.Idle, alarm.Waiting))
	wantsStepOver(t, b, five, 29)
	wantsStepOver(t, b, five, 30, turn(alarm.Waiting, alarm.Ringing))
	wantsStatus(t, b, alarm.Status{Name: "x", State: alarm.Ringing, Since: 30}, alarm.Status{Name: "y", State: alarm.Idle, E: api.ErrAbsent})
	wantsStepOver(t, b, one, 31, turn(alarm.Ringing, alarm.Fading))
	wantsStepOver(t, b, one, 35)
	wantsStepOver(t, b, five, 36, turn(alarm.Fading, alarm.Ringing))
	wantsStepOver(t, b, one, 40, turn(alarm.Ringing, alarm.Fading))
	wantsStepOver(t, b, one, 45, turn(alarm.Fading, alarm.Idle))

	with := func(name, rule string, long int64) []alarm.Spec {
		return []alarm.Spec{{Name: name, Rule: rule, For: long}}
	}
	wantsNew(t, with("1", y().Rule, 0), api.ErrName, 0)
	wantsNew(t, []alarm.Spec{x(), x()}, api.ErrTwice, 1)
	wantsNew(t, with("x", "(1 + 2)", 0), api.ErrType, 0)
	wantsNew(t, with("x", "1 +", 0), api.ErrForm, 0)
	wantsNew(t, with("x", y().Rule, -1), api.ErrArg, 0)
	b = made(t)
	wantsStepOver(t, b, five, 1)
	wantsStatus(t, b)

	// The tenth of the whole.
	r, _ := ring.New(1)
	if e := r.Push(100, api.Snapshot{Precision: 2, Values: []api.Value{{Desc: api.Desc{Kind: api.Counter, Name: "c"}, Total: api.Int{Lo: 31}}}}); e != api.OK {
		t.Fatal(e)
	}
	b = made(t, alarm.Spec{Name: "x", Rule: "(rate(c, 60) > 0.5)", For: 10})
	wantsStepOver(t, b, r, 100, turn(alarm.Idle, alarm.Waiting))
	wantsStepOver(t, b, r, 105)
	wantsStatus(t, b, alarm.Status{Name: "x", State: alarm.Waiting, Since: 100})
	wantsStepOver(t, b, r, 110, turn(alarm.Waiting, alarm.Ringing))
}

func TestStatesHaveTheirNumbers(t *testing.T) {
	if l := []int{alarm.None, alarm.Idle, alarm.Waiting, alarm.Ringing, alarm.Fading}; !slices.Equal(l, []int{0, 1, 2, 3, 4}) {
		t.Errorf("the states have the numbers %v", l)
	}
}

// P23.1: New.

// at tells specs of which that with the number i is the one that is told.
func at(i int, s alarm.Spec) []alarm.Spec {
	l := make([]alarm.Spec, i, i+1)
	for j := range l {
		l[j] = spec(j, 1, 1)
	}
	return append(l, s)
}

// wrong tells what may be wrong with a spec, and its error.
func wrong() map[api.Errno][]alarm.Spec {
	all := map[api.Errno][]alarm.Spec{}
	for _, name := range []string{"", "1", "1a", "a b", "a-b", "a\n", " a", "\u00e9", "\xff", "a_sum", "a_count", "a_bucket", strings.Repeat("n", 65)} {
		all[api.ErrName] = append(all[api.ErrName], alarm.Spec{Name: name, Rule: ruleOf(0)})
	}
	for rule, e := range map[string]api.Errno{
		"": api.ErrForm, "1 +": api.ErrForm, "(1 < 2) ": api.ErrForm, "(1<2)": api.ErrForm, "01": api.ErrForm, "(1 < 2": api.ErrForm, "sum": api.ErrForm,
		"(total(a, 0) < 1)": api.ErrArg, "(quantile(2/1, h, 5) < 1)": api.ErrArg,
		"(total(a_sum, 5) < 1)":                                            api.ErrName,
		`(total(a{y="1",x="1"}, 5) < 1)`:                                   api.ErrOrder,
		`(total(a{x="1",x="1"}, 5) < 1)`:                                   api.ErrTwice,
		"(total(a{x=\"\xff\"}, 5) < 1)":                                    api.ErrUtf,
		`(total(a{x="` + strings.Repeat("v", 1025) + `"}, 5) < 1)`:         api.ErrBytes,
		strings.Repeat("not(", 510) + "(1 < 2)" + strings.Repeat(")", 510): api.ErrMany,
		strings.Repeat("1", 65537):                                         api.ErrBytes,
		"(1 and 2)":                                                        api.ErrType,
		"not(1)":                                                           api.ErrType,
		"((1 < 2) < 3)":                                                    api.ErrType,
		"1":                                                                api.ErrType,
		"(1 + 2)":                                                          api.ErrType,
		"rate(a, 5)":                                                       api.ErrType,
		"quantile(1/2, h, 5)":                                              api.ErrType,
	} {
		all[e] = append(all[e], alarm.Spec{Name: "x", Rule: rule})
	}
	for _, n := range []int64{-1, far + 1, -far, first, last} {
		all[api.ErrArg] = append(all[api.ErrArg], alarm.Spec{Name: "x", Rule: ruleOf(0), For: n}, alarm.Spec{Name: "x", Rule: ruleOf(0), Keep: n}, alarm.Spec{Name: "x", Rule: ruleOf(0), For: n, Keep: n})
	}
	return all
}

func TestNewRefuses(t *testing.T) {
	for e, l := range wrong() {
		for _, s := range l {
			wantsNew(t, at(0, s), e, 0)
			wantsNew(t, at(1, s), e, 1)
			wantsNew(t, at(63, s), e, 63)
			// What stands behind it is not looked at.
			wantsNew(t, append(at(7, s), s, alarm.Spec{}, spec(1, -1, 0)), e, 7)
		}
	}
}

func TestNewTakes(t *testing.T) {
	wantsNew(t, nil, api.OK, 0)
	wantsNew(t, []alarm.Spec{}, api.OK, 0)
	for _, name := range []string{"a", "Z", "_", ":", "a:b_9", "A_sums", "sum", "le", "__x", strings.Repeat("n", 64)} {
		wantsNew(t, at(3, alarm.Spec{Name: name, Rule: ruleOf(0)}), api.OK, 0)
	}
	for _, rule := range []string{
		"(1 < 2)", "not((1 < 2))", "((1 < 2) and (2 < 1))", `(total(a{x="\n"}, 4611686018427387904) >= -0)`, "(quantile(0/1, h, 1) == 1)",
		strings.Repeat("not(", 509) + "(1 < 2)" + strings.Repeat(")", 509),
	} {
		wantsNew(t, at(3, alarm.Spec{Name: "x", Rule: rule}), api.OK, 0)
	}
	for _, n := range []int64{0, 1, far - 1, far} {
		for _, k := range []int64{0, 1, far - 1, far} {
			wantsNew(t, at(3, spec(3, n, k)), api.OK, 0)
		}
	}
	// Alarms differ by their names alone.
	same := spec(0, 1, 1)
	same.Name = "Alarm0"
	wantsNew(t, []alarm.Spec{spec(0, 1, 1), same}, api.OK, 0)
}

// TestMany: just MaxRules specs are taken; of one more ErrMany is told, whatever else is wrong with any.
func TestMany(t *testing.T) {
	most := at(63, spec(63, 0, 0))
	if l := made(t, most...).Status(); len(l) != 64 || l[63] != (alarm.Status{Name: "alarm63", State: alarm.Idle}) {
		t.Errorf("Status: %v", l)
	}
	for _, s := range []alarm.Spec{spec(64, 0, 0), spec(0, 0, 0), {}, spec(64, -1, 0)} {
		wantsNew(t, append(slices.Clone(most), s), api.ErrMany, 64)
		wantsNew(t, append([]alarm.Spec{s}, most...), api.ErrMany, 64)
		wantsNew(t, append([]alarm.Spec{s, s, s}, most...), api.ErrMany, 64)
	}
	wantsNew(t, make([]alarm.Spec, 64), api.ErrName, 0)
	wantsNew(t, make([]alarm.Spec, 65), api.ErrMany, 64)
	wantsNew(t, make([]alarm.Spec, 1000), api.ErrMany, 64)
}

func TestTwice(t *testing.T) {
	for n := 2; n <= 64; n += 31 {
		for i := range n {
			for j := i + 1; j < n; j++ {
				l := at(n-1, spec(n-1, 1, 1))
				l[j].Name = l[i].Name
				wantsNew(t, l, api.ErrTwice, j)
			}
		}
	}
}

// TestErrorsInTheirOrder: a spec has any of what can be wrong with one, ahead of another one that has.
func TestErrorsInTheirOrder(t *testing.T) {
	faults := []struct {
		e  api.Errno
		do func(s *alarm.Spec)
	}{
		{api.ErrName, func(s *alarm.Spec) { s.Name = "alarm0 " }},
		{api.ErrTwice, func(s *alarm.Spec) { s.Name = "alarm0" }},
		{api.ErrForm, func(s *alarm.Spec) { s.Rule = "1 +" }},
		{api.ErrType, func(s *alarm.Spec) { s.Rule = "1" }},
		{api.ErrArg, func(s *alarm.Spec) { s.For = -1 }},
		{api.ErrArg, func(s *alarm.Spec) { s.Keep = far + 1 }},
	}
	faulty := func(i, mask int) (alarm.Spec, api.Errno) {
		s, e := spec(i, 1, 1), api.OK
		// The last ones first: where two write over one field, the one that is told first stays.
		for k := len(faults) - 1; k >= 0; k-- {
			if mask>>k&1 == 1 {
				faults[k].do(&s)
				e = faults[k].e
			}
		}
		return s, e
	}
	all := 1 << len(faults)
	for mask := range all {
		for other := range all {
			one, e := faulty(1, mask)
			two, f := faulty(2, other)
			l := []alarm.Spec{spec(0, 1, 1), one, two}
			if e != api.OK {
				wantsNew(t, l, e, 1)
			} else if f != api.OK {
				wantsNew(t, l, f, 2)
			} else {
				wantsNew(t, l, api.OK, 0)
			}
		}
	}
}

// TestNewOfDrawnSpecs: New tells what the chapter's words say.
func TestNewOfDrawnSpecs(t *testing.T) {
	r := rand.New(rand.NewSource(231))
	var odd []alarm.Spec
	for _, e := range []api.Errno{api.ErrName, api.ErrForm, api.ErrArg, api.ErrTwice, api.ErrType, api.ErrUtf, api.ErrOrder} {
		odd = append(odd, wrong()[e]...)
	}
	seen := map[api.Errno]int{}
	for range 5000 {
		n := r.Intn(6)
		if r.Intn(20) == 0 {
			n = 60 + r.Intn(8)
		}
		var l []alarm.Spec
		for i := range n {
			s := spec(i, r.Int63n(3), r.Int63n(3))
			switch r.Intn(8) {
			case 0:
				s = odd[r.Intn(len(odd))]
			case 1:
				s.Name = spec(r.Intn(n), 0, 0).Name
			case 2:
				s.Rule = odd[r.Intn(len(odd))].Rule
			}
			l = append(l, s)
		}
		e, i := errorOf(l)
		seen[e]++
		wantsNew(t, l, e, i)
	}
	for _, e := range []api.Errno{api.OK, api.ErrMany, api.ErrName, api.ErrTwice, api.ErrForm, api.ErrType, api.ErrArg} {
		if seen[e] < 50 {
			t.Errorf("%v: %d alone", e, seen[e])
		}
	}
}

// P23.2: Step.

func TestStepRefuses(t *testing.T) {
	for _, now := range []int64{far + 1, far + 2, last, -far - 1, -far - 2, first} {
		b := made(t, spec(0, 0, 0))
		wantsNoStep(t, b, told(t, 0, "y"), now, api.ErrRange)
		wantsStatus(t, b, stand(alarm.Idle, 0))
		// None of that was a step, behind which others would have to come.
		wantsStep(t, b, -far, "y", turn(alarm.Idle, alarm.Ringing))
		wantsStep(t, b, far, "n", turn(alarm.Ringing, alarm.Idle))
		// It is told ahead of ErrOrder.
		wantsNoStep(t, b, told(t, 0, "y"), now, api.ErrRange)
		wantsNoStep(t, b, told(t, far, "y"), far, api.ErrOrder)
	}
	for _, was := range []int64{-far, -far + 1, -1, 0, 1, 20, far - 1, far} {
		for _, now := range []int64{was, was - 1, was - 2, was - 100, 0, -1, -far, was/2 - far/2} {
			if now > was || now < -far {
				continue
			}
			b := made(t, spec(0, 0, 0), spec(1, 0, 0))
			wantsStep(t, b, was, "yn", turn(alarm.Idle, alarm.Ringing))
			wantsNoStep(t, b, told(t, now, "ny"), now, api.ErrOrder)
			wantsStatus(t, b, stand(alarm.Ringing, was), alarm.Status{Name: "alarm1", State: alarm.Idle})
		}
	}
}

func TestStepsOfNoAlarms(t *testing.T) {
	b := made(t)
	r := told(t, 0, "")
	wantsNoStep(t, b, r, far+1, api.ErrRange)
	wantsStepOver(t, b, r, -far)
	wantsNoStep(t, b, r, -far, api.ErrOrder)
	wantsStepOver(t, b, r, 3)
	wantsNoStep(t, b, r, 2, api.ErrOrder)
	wantsNoStep(t, b, r, -far-1, api.ErrRange)
	wantsStepOver(t, b, r, far)
	wantsStatus(t, b)
}

// TestNothingHasChanged: steps that are refused leave no trace, in whichever state an alarm is, and whatever was wrong with its rule.
func TestNothingHasChanged(t *testing.T) {
	r := rand.New(rand.NewSource(232))
	states := map[int]int{}
	for range 600 {
		times := someTimes(r, 6+r.Intn(6))
		specs := []alarm.Spec{spec(0, someWhile(r, times), someWhile(r, times)), spec(1, someWhile(r, times), someWhile(r, times))}
		b, m := made(t, specs...), modelOf(specs)
		says := "yy"
		for i, at := range times {
			says = someSays(r, 2, says)
			stepBoth(t, b, m, at, says)
			for range 3 {
				early, odd := times[r.Intn(i+1)]-r.Int63n(2), someSays(r, 2, "")
				e := api.ErrOrder
				if early < -far {
					e = api.ErrRange
				}
				wantsNoStep(t, b, told(t, early, odd), early, e)
				wantsNoStep(t, b, told(t, far+1, odd), far+1, api.ErrRange)
				wantsNoStep(t, b, told(t, -far-1, odd), -far-1, api.ErrRange)
			}
			wantsStatus(t, b, m.status()...)
			states[m.status()[0].State]++
		}
	}
	for s := alarm.Idle; s <= alarm.Fading; s++ {
		if states[s] < 100 {
			t.Errorf("the state %d was come to %d times alone", s, states[s])
		}
	}
}

// brought tells a board whose alarm 0 came into a state at the time 100.
func brought(t *testing.T, state int, long, keep int64) *alarm.Board {
	t.Helper()
	b := made(t, spec(0, long, keep))
	switch state {
	case alarm.Idle:
		// It is so since 0, and at 100 there is a step.
		wantsStep(t, b, 100, "n")
	case alarm.Waiting:
		wantsStep(t, b, 100, "y", turn(alarm.Idle, alarm.Waiting))
	case alarm.Ringing:
		ringAt(t, b, 100, long)
	case alarm.Fading:
		ringAt(t, b, 99, long)
		wantsStep(t, b, 100, "n", turn(alarm.Ringing, alarm.Fading))
	}
	return b
}

// ringAt lets the alarm 0 ring from a time on.
func ringAt(t *testing.T, b *alarm.Board, at, long int64) {
	t.Helper()
	if long == 0 {
		wantsStep(t, b, at, "y", turn(alarm.Idle, alarm.Ringing))
		return
	}
	wantsStep(t, b, at-long, "y", turn(alarm.Idle, alarm.Waiting))
	wantsStep(t, b, at, "y", turn(alarm.Waiting, alarm.Ringing))
}

// TestEveryWay: each field of the chapter's table; the step is behind the time 100 by after.
func TestEveryWay(t *testing.T) {
	for _, z := range []struct {
		from       int
		long, keep int64
		after      int64
		says       string
		to         int
	}{
		{alarm.Idle, 0, 9, 1, "y", alarm.Ringing},
		{alarm.Idle, 0, 0, 1, "y", alarm.Ringing},
		{alarm.Idle, 1, 0, 1, "y", alarm.Waiting},
		{alarm.Idle, 1, 0, 50, "y", alarm.Waiting}, // however long it was idle
		{alarm.Idle, far, 0, 1, "y", alarm.Waiting},
		{alarm.Idle, 0, 0, 1, "n", alarm.Idle},
		{alarm.Idle, 5, 5, 9, "n", alarm.Idle},

		{alarm.Waiting, 5, 0, 1, "y", alarm.Waiting},
		{alarm.Waiting, 5, 0, 4, "y", alarm.Waiting},
		{alarm.Waiting, 5, 0, 5, "y", alarm.Ringing},
		{alarm.Waiting, 5, 0, 6, "y", alarm.Ringing},
		{alarm.Waiting, 5, 0, far - 100, "y", alarm.Ringing},
		{alarm.Waiting, 1, 0, 1, "y", alarm.Ringing},
		{alarm.Waiting, 2, 0, 1, "y", alarm.Waiting},
		{alarm.Waiting, far - 100, 0, far - 101, "y", alarm.Waiting},
		{alarm.Waiting, far - 100, 0, far - 100, "y", alarm.Ringing},
		{alarm.Waiting, far - 99, 0, far - 100, "y", alarm.Waiting},
		{alarm.Waiting, far, 0, far - 100, "y", alarm.Waiting},
		{alarm.Waiting, 5, 9, 1, "n", alarm.Idle},
		{alarm.Waiting, 5, 9, 5, "n", alarm.Idle},
		{alarm.Waiting, 5, 9, 6, "n", alarm.Idle},

		{alarm.Ringing, 0, 0, 1, "y", alarm.Ringing},
		{alarm.Ringing, 5, 5, 9, "y", alarm.Ringing},
		{alarm.Ringing, 0, 0, 1, "n", alarm.Idle},
		{alarm.Ringing, 5, 0, 9, "n", alarm.Idle},
		{alarm.Ringing, 0, 1, 1, "n", alarm.Fading},
		{alarm.Ringing, 5, 1, 50, "n", alarm.Fading}, // however long it rang
		{alarm.Ringing, 5, far, 1, "n", alarm.Fading},

		{alarm.Fading, 0, 5, 1, "y", alarm.Ringing},
		{alarm.Fading, 9, 5, 5, "y", alarm.Ringing},
		{alarm.Fading, 9, 5, 6, "y", alarm.Ringing},
		{alarm.Fading, 9, 5, 1, "n", alarm.Fading},
		{alarm.Fading, 9, 5, 4, "n", alarm.Fading},
		{alarm.Fading, 9, 5, 5, "n", alarm.Idle},
		{alarm.Fading, 9, 5, 6, "n", alarm.Idle},
		{alarm.Fading, 9, 5, far - 100, "n", alarm.Idle},
		{alarm.Fading, 0, 1, 1, "n", alarm.Idle},
		{alarm.Fading, 0, 2, 1, "n", alarm.Fading},
		{alarm.Fading, 0, far - 100, far - 101, "n", alarm.Fading},
		{alarm.Fading, 0, far - 100, far - 100, "n", alarm.Idle},
		{alarm.Fading, 0, far - 99, far - 100, "n", alarm.Fading},
		{alarm.Fading, 0, far, far - 100, "n", alarm.Fading},
	} {
		for _, says := range map[string][]string{"y": {"y"}, "n": {"n", "-", "k", ""}}[z.says] {
			b := brought(t, z.from, z.long, z.keep)
			since := b.Status()[0].Since
			if b.Status()[0].State != z.from || since != 100 && (z.from != alarm.Idle || since != 0) {
				t.Fatalf("%v: Status: %v", z, b.Status())
			}
			want := stand(z.to, since)
			want.E = errorIn(says, 0)
			if z.from == z.to {
				wantsStep(t, b, 100+z.after, says)
			} else {
				wantsStep(t, b, 100+z.after, says, turn(z.from, z.to))
				want.Since = 100 + z.after
			}
			wantsStatus(t, b, want)
		}
	}
}

// TestFarApart: times as far from each other as they can be.
func TestFarApart(t *testing.T) {
	begin := -far
	for _, long := range []int64{1, far - 1, far} {
		for _, now := range []int64{begin + 1, begin + 2, -2, -1, 0, 1, far - 1, far} {
			apart := uint64(now) - uint64(begin)
			b := made(t, spec(0, long, 0))
			wantsStep(t, b, begin, "y", turn(alarm.Idle, alarm.Waiting))
			if apart >= uint64(long) {
				wantsStep(t, b, now, "y", turn(alarm.Waiting, alarm.Ringing))
			} else {
				wantsStep(t, b, now, "y")
			}
			if apart == 1 {
				continue
			}
			b = made(t, spec(0, 0, long))
			wantsStep(t, b, begin, "y", turn(alarm.Idle, alarm.Ringing))
			wantsStep(t, b, begin+1, "n", turn(alarm.Ringing, alarm.Fading))
			if apart-1 >= uint64(long) {
				wantsStep(t, b, now, "n", turn(alarm.Fading, alarm.Idle))
			} else {
				wantsStep(t, b, now, "n")
			}
		}
	}
	// The end of a while is beyond all times.
	b := made(t, spec(0, far, far))
	wantsStep(t, b, far-1, "y", turn(alarm.Idle, alarm.Waiting))
	wantsStep(t, b, far, "y")
	b = made(t, spec(0, 0, far))
	wantsStep(t, b, far-2, "y", turn(alarm.Idle, alarm.Ringing))
	wantsStep(t, b, far-1, "n", turn(alarm.Ringing, alarm.Fading))
	wantsStep(t, b, far, "n")
}

// TestChangesInTheOrderOfTheSpecs: of those alone that are in another state, and not in the order of their names.
func TestChangesInTheOrderOfTheSpecs(t *testing.T) {
	named := func(name string, i int, long, keep int64) alarm.Spec {
		s := spec(i, long, keep)
		s.Name = name
		return s
	}
	b := made(t, named("m", 0, 0, 0), named("z", 1, 0, 5), named("a", 2, 5, 0), named("B", 3, 0, 0))
	wantsStep(t, b, 1, "yyyy",
		alarm.Change{Name: "m", From: alarm.Idle, To: alarm.Ringing}, alarm.Change{Name: "z", From: alarm.Idle, To: alarm.Ringing},
		alarm.Change{Name: "a", From: alarm.Idle, To: alarm.Waiting}, alarm.Change{Name: "B", From: alarm.Idle, To: alarm.Ringing})
	wantsStep(t, b, 2, "yyyy")
	wantsStep(t, b, 3, "ynyn", alarm.Change{Name: "z", From: alarm.Ringing, To: alarm.Fading}, alarm.Change{Name: "B", From: alarm.Ringing, To: alarm.Idle})
	wantsStep(t, b, 6, "-nyn", alarm.Change{Name: "m", From: alarm.Ringing, To: alarm.Idle}, alarm.Change{Name: "a", From: alarm.Waiting, To: alarm.Ringing})
	wantsStep(t, b, 7, "",
		alarm.Change{Name: "a", From: alarm.Ringing, To: alarm.Idle})
	wantsStep(t, b, 8, "", alarm.Change{Name: "z", From: alarm.Fading, To: alarm.Idle})
	wantsStep(t, b, 9, "")
}

// TestRulesAreWorkedOutAtNow: over the ring that is handed in, at the time of the step.
func TestRulesAreWorkedOutAtNow(t *testing.T) {
	r, _ := ring.New(4)
	for i, n := range []uint64{1, 7, 1, 7} {
		s := api.Snapshot{Precision: 2, Values: []api.Value{{Desc: api.Desc{Kind: api.Counter, Name: "c"}, Total: api.Int{Lo: n}}}}
		if e := r.Push(int64(10*i+10), s); e != api.OK {
			t.Fatal(e)
		}
	}
	turn := func(from, to int) alarm.Change { return alarm.Change{Name: "x", From: from, To: to} }
	b := made(t, alarm.Spec{Name: "x", Rule: "(total(c, 10) > 4)"})
	wantsStepOver(t, b, r, 10)
	wantsStepOver(t, b, r, 19)
	wantsStepOver(t, b, r, 20, turn(alarm.Idle, alarm.Ringing))
	wantsStepOver(t, b, r, 29)
	wantsStepOver(t, b, r, 30, turn(alarm.Ringing, alarm.Idle))
	wantsStepOver(t, b, r, 45, turn(alarm.Idle, alarm.Ringing))
	wantsStepOver(t, b, r, 50, turn(alarm.Ringing, alarm.Idle))
	wantsStatus(t, b, alarm.Status{Name: "x", State: alarm.Idle, Since: 50, E: api.ErrEmpty})
}

// P23.3: Status.

func TestStatus(t *testing.T) {
	b := made(t, spec(0, 5, 5), spec(1, 0, 0))
	one := func(state int, since int64, e api.Errno) alarm.Status {
		return alarm.Status{Name: "alarm1", State: state, Since: since, E: e}
	}
	failed := func(state int, since int64, e api.Errno) alarm.Status {
		return alarm.Status{Name: "alarm0", State: state, Since: since, E: e}
	}
	// Behind no step, and behind one that was refused, there is no error.
	wantsStatus(t, b, stand(alarm.Idle, 0), one(alarm.Idle, 0, api.OK))
	wantsNoStep(t, b, told(t, 0, ""), far+1, api.ErrRange)
	wantsStatus(t, b, stand(alarm.Idle, 0), one(alarm.Idle, 0, api.OK))
	wantsStep(t, b, -3, "")
	wantsStatus(t, b, failed(alarm.Idle, 0, api.ErrEmpty), one(alarm.Idle, 0, api.ErrEmpty))
	wantsStep(t, b, -2, "k-")
	wantsStatus(t, b, failed(alarm.Idle, 0, api.ErrKind), one(alarm.Idle, 0, api.ErrAbsent))
	wantsStep(t, b, -1, "nn")
	wantsStatus(t, b, stand(alarm.Idle, 0), one(alarm.Idle, 0, api.OK))
	wantsStep(t, b, 7, "yy", turn(alarm.Idle, alarm.Waiting), alarm.Change{Name: "alarm1", From: alarm.Idle, To: alarm.Ringing})
	wantsStatus(t, b, stand(alarm.Waiting, 7), one(alarm.Ringing, 7, api.OK))
	wantsStep(t, b, 9, "y-", alarm.Change{Name: "alarm1", From: alarm.Ringing, To: alarm.Idle})
	wantsStatus(t, b, stand(alarm.Waiting, 7), one(alarm.Idle, 9, api.ErrAbsent))
	wantsNoStep(t, b, told(t, 9, "yy"), 9, api.ErrOrder)
	wantsStatus(t, b, stand(alarm.Waiting, 7), one(alarm.Idle, 9, api.ErrAbsent))
	wantsStep(t, b, 12, "yn", turn(alarm.Waiting, alarm.Ringing))
	wantsStatus(t, b, stand(alarm.Ringing, 12), one(alarm.Idle, 9, api.OK))
	wantsStep(t, b, 20, "kk", turn(alarm.Ringing, alarm.Fading))
	wantsStatus(t, b, failed(alarm.Fading, 20, api.ErrKind), one(alarm.Idle, 9, api.ErrKind))
	wantsStep(t, b, 21, "-n")
	wantsStatus(t, b, failed(alarm.Fading, 20, api.ErrAbsent), one(alarm.Idle, 9, api.OK))
	wantsStep(t, b, 25, "nn", turn(alarm.Fading, alarm.Idle))
	wantsStatus(t, b, stand(alarm.Idle, 25), one(alarm.Idle, 9, api.OK))
}

// TestErrorsOfRules: an error of a rule that is not worked out is none.
func TestErrorsOfRules(t *testing.T) {
	b := made(t,
		alarm.Spec{Name: "a", Rule: "((1 < 2) or (total(gone, 5) > 1))"},
		alarm.Spec{Name: "b", Rule: "((2 < 1) or (total(gone, 5) > 1))"},
		alarm.Spec{Name: "c", Rule: "not((total(gone, 5) > 1))"},
		alarm.Spec{Name: "d", Rule: "(least(s, 5) < 1)"})
	r, _ := ring.New(1)
	if e := r.Push(1, api.Snapshot{Precision: 1, Values: []api.Value{{Desc: api.Desc{Kind: api.Summary, Name: "s"}}}}); e != api.OK {
		t.Fatal(e)
	}
	wantsStepOver(t, b, r, 1, alarm.Change{Name: "a", From: alarm.Idle, To: alarm.Ringing})
	wantsStatus(t, b,
		alarm.Status{Name: "a", State: alarm.Ringing, Since: 1},
		alarm.Status{Name: "b", State: alarm.Idle, E: api.ErrAbsent},
		alarm.Status{Name: "c", State: alarm.Idle, E: api.ErrAbsent},
		alarm.Status{Name: "d", State: alarm.Idle, E: api.ErrEmpty})
}

// P23.4: Copy.

// TestCopy: boards that were copied, in whichever states, go ways of their own.
func TestCopy(t *testing.T) {
	r := rand.New(rand.NewSource(234))
	copies := 0
	for range 300 {
		times := someTimes(r, 12)
		specs := make([]alarm.Spec, r.Intn(4))
		for i := range specs {
			specs[i] = spec(i, someWhile(r, times), someWhile(r, times))
		}
		boards, models := []*alarm.Board{made(t, specs...)}, []*model{modelOf(specs)}
		says := ""
		for _, at := range times {
			if len(boards) < 5 && r.Intn(3) == 0 {
				i := r.Intn(len(boards))
				boards, models = append(boards, boards[i].Copy()), append(models, models[i].copied())
				copies++
			}
			for i := range boards {
				if r.Intn(4) == 0 {
					continue
				}
				says = someSays(r, len(specs), says)
				stepBoth(t, boards[i], models[i], at, says)
			}
			for i := range boards {
				wantsStatus(t, boards[i], models[i].status()...)
			}
		}
	}
	if copies < 500 {
		t.Errorf("too little was tried: %d", copies)
	}
}

func TestCopyKeepsTheTimeOfTheLastStep(t *testing.T) {
	b := made(t, spec(0, 0, 0))
	u := b.Copy()
	wantsStep(t, b, 5, "y", turn(alarm.Idle, alarm.Ringing))
	wantsStatus(t, u, stand(alarm.Idle, 0))
	// The copy had no step so far.
	wantsStep(t, u, -far, "n")
	v := b.Copy()
	wantsNoStep(t, v, told(t, 5, "n"), 5, api.ErrOrder)
	wantsStep(t, v, 6, "n", turn(alarm.Ringing, alarm.Idle))
	wantsNoStep(t, v, told(t, 6, "y"), 6, api.ErrOrder)
	wantsStep(t, b, 6, "y")
	wantsStatus(t, b, stand(alarm.Ringing, 5))
	wantsStatus(t, v, stand(alarm.Idle, 6))
	wantsStatus(t, u, stand(alarm.Idle, 0))
	wantsNoStep(t, b.Copy().Copy(), told(t, 6, "y"), 6, api.ErrOrder)
}

func TestCopyOfNone(t *testing.T) {
	b := made(t)
	wantsStepOver(t, b, told(t, 0, ""), 3)
	u := b.Copy()
	wantsStatus(t, u)
	wantsNoStep(t, u, told(t, 0, ""), 3, api.ErrOrder)
	wantsStepOver(t, u, told(t, 0, ""), 4)
}

// TestCopyKeepsTheRules: whole, with all that can stand in one.
func TestCopyKeepsTheRules(t *testing.T) {
	l := func(value string) []api.Label { return []api.Label{{Name: "x", Value: value}, {Name: "y", Value: "2"}} }
	r, _ := ring.New(1)
	if e := r.Push(3, api.Snapshot{Precision: 2, Values: []api.Value{
		{Desc: api.Desc{Kind: api.Counter, Name: "c", Labels: l("1")}, Total: api.Int{Lo: 30}},
		{Desc: api.Desc{Kind: api.Counter, Name: "c", Labels: l("3")}},
		{Desc: api.Desc{Kind: api.Histogram, Name: "h", Labels: l("1")}, Total: api.Int{Lo: 3}, Counts: []api.Count{{Index: 3, N: 1}}, N: 1},
	}}); e != api.OK {
		t.Fatal(e)
	}
	specs := []alarm.Spec{
		{Name: "a", Rule: `(rate(c{x="1",y="2"}, 5) == 6)`},
		{Name: "b", Rule: `((total(c{x="3",y="2"}, 5) + 0.5) > 0.5)`},
		{Name: "c", Rule: `(not((total(c{x="3",y="2"}, 9) > 0)) and (quantile(1/1, h{x="1",y="2"}, 2) >= 3))`},
		{Name: "d", Rule: `(total(c{x="1"}, 5) > 0)`},
		{Name: "e", Rule: `(quantile(1/2, c{x="1",y="2"}, 5) > 0)`},
	}
	b := made(t, specs...)
	for range 4 {
		b = b.Copy()
		// What its copies do leaves the board as it is.
		for _, one := range []*alarm.Board{b.Copy(), b.Copy().Copy()} {
			wantsStepOver(t, one, r, 3, alarm.Change{Name: "a", From: alarm.Idle, To: alarm.Ringing}, alarm.Change{Name: "c", From: alarm.Idle, To: alarm.Ringing})
			wantsStatus(t, one,
				alarm.Status{Name: "a", State: alarm.Ringing, Since: 3}, alarm.Status{Name: "b", State: alarm.Idle}, alarm.Status{Name: "c", State: alarm.Ringing, Since: 3},
				alarm.Status{Name: "d", State: alarm.Idle, E: api.ErrAbsent}, alarm.Status{Name: "e", State: alarm.Idle, E: api.ErrKind})
		}
	}
	wantsStepOver(t, b, r, 3, alarm.Change{Name: "a", From: alarm.Idle, To: alarm.Ringing}, alarm.Change{Name: "c", From: alarm.Idle, To: alarm.Ringing})
}
