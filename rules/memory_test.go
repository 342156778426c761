package rules_test

import (
	"math/rand"
	"slices"
	"strings"
	"testing"

	"gnomon/api"
	"gnomon/ring"
	"gnomon/rules"
)

// P22.7: R3.

// spacious tells a list as a piece of a longer one, whose other elements are odd.
func spacious[T any](l []T, odd T) []T {
	all := append(append([]T(nil), l...), odd, odd, odd)
	return all[:len(l)]
}

// roomy tells a rule of which every list has spare room.
func roomy(x api.Rule) api.Rule {
	x.Labels = spacious(x.Labels, api.Label{Name: "odd", Value: "odd"})
	x.Args = spacious(x.Args, api.Rule{Kind: 77, Name: "odd", Labels: labels("odd", "1")})
	for i := range x.Args {
		x.Args[i] = roomy(x.Args[i])
	}
	return x
}

// unrolled tells a rule with all its spare room, as lists of its own.
func unrolled(x api.Rule) api.Rule {
	x.Labels = slices.Clone(x.Labels[:cap(x.Labels)])
	x.Args = slices.Clone(x.Args[:cap(x.Args)])
	for i := range x.Args {
		x.Args[i] = unrolled(x.Args[i])
	}
	return x
}

func fill[T any](l []T, x T) {
	l = l[:cap(l)]
	for i := range l {
		l[i] = x
	}
}

// spoil writes over all lists of a rule, their spare room too.
func spoil(x api.Rule) {
	for _, a := range x.Args[:cap(x.Args)] {
		spoil(a)
	}
	fill(x.Labels, api.Label{Name: "spoiled"})
	fill(x.Args, api.Rule{Kind: -9, Name: "spoiled"})
}

// TestRulesAreLeft: whatever is called, a rule that was handed in is as it was, its spare room too, and nothing of it is kept.
func TestRulesAreLeft(t *testing.T) {
	r := rand.New(rand.NewSource(234))
	for range 3000 {
		all := someHeld(r)
		g, _ := ring.New(4)
		for _, h := range all {
			g.Push(h.at, h.s)
		}
		x := anyRule(r)
		if r.Intn(3) == 0 {
			x = spoiled(r, x)
		}
		want := deep(x)
		x = roomy(x)
		was := unrolled(x)
		text, e := rules.Print(x)
		answer, f := rules.Eval(g, 20, x)
		rules.Check(x)
		rules.Type(x)
		rules.Same(x, x)
		rules.Same(x, want)
		if !same(unrolled(x), was) {
			t.Fatalf("changed: %v, was %v", unrolled(x), was)
		}
		spoil(x)
		if again, e2 := rules.Print(want); again != text || e2 != e {
			t.Fatalf("Print tells %q, %v, and then %q, %v", text, e, again, e2)
		}
		if again, f2 := rules.Eval(g, 20, want); !sameAnswer(again, answer) || f2 != f {
			t.Fatalf("Eval tells %v, %v, and then %v, %v", answer, f, again, f2)
		}
	}
}

// TestAnswersAreTheirOwners: whoever writes over a rule that was read changes no other answer.
func TestAnswersAreTheirOwners(t *testing.T) {
	r := rand.New(rand.NewSource(235))
	for range 3000 {
		want := anyRule(r)
		text := textOf(want)
		x, _, _ := rules.Parse(text)
		was := unrolled(x)
		y, _, _ := rules.Parse(text)
		spoil(y)
		if !same(unrolled(x), was) {
			t.Fatalf("two answers of %q share memory", text)
		}
		if z, _, _ := rules.Parse(text); !same(z, want) {
			t.Fatalf("%q is read as %v then", text, z)
		}
	}
}

// TestNoTwoListsAreShared: what is written over one list of a rule that was read, its spare room too, is not seen in another one.
func TestNoTwoListsAreShared(t *testing.T) {
	r := rand.New(rand.NewSource(236))
	texts := []string{`(total(a{x="1"}, 5) + total(a{x="1"}, 5))`, `(not((1 < 2)) and not((1 < 2)))`, `((sum(a{x="1",y="2",z="3"}, 5) < 1) or (sum(a{x="1",y="2",z="3"}, 5) < 1))`, "(((1 + 1) + (1 + 1)) + ((1 + 1) + (1 + 1)))"}
	for range 400 {
		texts = append(texts, textOf(anyRule(r)))
	}
	for _, text := range texts {
		first, _, _ := rules.Parse(text)
		for i := range places(&first) {
			x, _, _ := rules.Parse(text)
			all := places(&x)
			want := flat(deep(x))
			fill(all[i].Labels, api.Label{Name: "spoiled"})
			fill(all[i].Args[len(all[i].Args):cap(all[i].Args)], api.Rule{Kind: -9})
			want[i].Labels = all[i].Labels
			for j, n := range all {
				if !slices.Equal(n.Labels, want[j].Labels) || n.Kind != want[j].Kind || len(n.Args) != len(want[j].Args) {
					t.Fatalf("%q: the lists of the node %d are seen in the node %d", text, i, j)
				}
			}
		}
	}
}

// TestGrownListsAreApart: what is laid behind one list is not seen in another one.
func TestGrownListsAreApart(t *testing.T) {
	x, _, _ := rules.Parse(`((total(a{x="1"}, 5) < 1) and (total(a{x="1"}, 5) < 1))`)
	want := deep(x)
	for _, n := range places(&x) {
		_ = append(n.Labels, api.Label{Name: "odd"})
		_ = append(n.Args, api.Rule{Name: "odd"})
	}
	if !same(x, want) {
		t.Errorf("changed: %v", x)
	}
}

// TestEmptyListsMayBeAnything: nil or not, with spare room or without, they are the same to all calls.
func TestEmptyListsMayBeAnything(t *testing.T) {
	r := rand.New(rand.NewSource(237))
	for range 1000 {
		x := anyRule(r)
		y := deep(x)
		for _, n := range places(&y) {
			if len(n.Labels) == 0 {
				n.Labels = make([]api.Label, 0, r.Intn(3))
			}
			if len(n.Args) == 0 {
				n.Args = make([]api.Rule, 0, r.Intn(3))
			}
		}
		wantsSame(t, "empty lists", x, y, true)
		wantsError(t, "empty lists", y, api.OK)
		wantsText(t, y, strings.Clone(textOf(x)))
	}
}
