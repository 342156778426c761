package lines_test

import (
	"math"
	"math/rand"
	"slices"
	"strings"
	"testing"
	"unsafe"

	"gnomon/api"
	"gnomon/lines"
	"gnomon/real"
)

// P24.6: R3.

// spacious tells a list as a piece of a longer one, whose other elements are odd.
func spacious[T any](l []T, odd T) []T {
	all := append(append([]T(nil), l...), odd, odd, odd)
	return all[:len(l)]
}

// roomy tells a command of which every list has spare room.
func roomy(c lines.Command) lines.Command {
	c.N, c.X, c.S = spacious(c.N, -77), spacious(c.X, -7.7), spacious(c.S, "odd")
	return c
}

// unrolled tells a command with all its spare room, as lists of its own.
func unrolled(c lines.Command) lines.Command {
	c.N, c.X, c.S = slices.Clone(c.N[:cap(c.N)]), slices.Clone(c.X[:cap(c.X)]), slices.Clone(c.S[:cap(c.S)])
	return c
}

func fill[T any](l []T, x T) {
	l = l[:cap(l)]
	for i := range l {
		l[i] = x
	}
}

// spoil writes over all lists of a command, their spare room too.
func spoil(c lines.Command) {
	fill(c.N, -99)
	fill(c.X, math.Inf(-1))
	fill(c.S, "spoiled")
}

// TestCommandsAreLeft: a command that was handed in is as it was, its spare room too, and nothing of it is kept.
func TestCommandsAreLeft(t *testing.T) {
	r := rand.New(rand.NewSource(246))
	refused := 0
	for range 5000 {
		want := someCommand(r)
		switch r.Intn(4) {
		case 0:
			want.Kind = r.Intn(25) - 2
		case 1:
			want.S = append(want.S, strings.Repeat("a", 70000))
		}
		c := roomy(want)
		was := unrolled(c)
		line, e := lines.Print(c)
		if !same(unrolled(c), was) {
			t.Fatalf("changed: %v, was %v", unrolled(c), was)
		}
		if e != api.OK {
			refused++
		}
		spoil(c)
		if again, f := lines.Print(want); again != line || f != e {
			t.Fatalf("Print tells %.200q, %v, and then %.200q, %v", line, e, again, f)
		}
	}
	if refused < 1000 || refused > 4000 {
		t.Errorf("%d were refused", refused)
	}
	// Texts that are too long by themselves, or with the rest of the line.
	for _, n := range []int{65529, 65530, 65536, 65537, 100000} {
		c := roomy(lines.Command{Kind: lines.Load, S: []string{strings.Repeat("\xff", n)}})
		was := unrolled(c)
		wantsPrint(t, c, "", api.ErrBytes)
		if !same(unrolled(c), was) {
			t.Errorf("changed at %d bytes", n)
		}
	}
}

// TestEmptyListsMayBeAnything: nil or not, with spare room or without, they are the same to Print.
func TestEmptyListsMayBeAnything(t *testing.T) {
	for line, c := range eachKind() {
		if len(c.N) == 0 {
			c.N = make([]int64, 0, 3)
		}
		if len(c.X) == 0 {
			c.X = []float64{}
		}
		if len(c.S) == 0 {
			c.S = make([]string, 0, 1)
		}
		wantsPrint(t, c, line, api.OK)
	}
}

// TestAnswersAreTheirOwners: whoever writes over a command that was read, its spare room too, changes no other answer.
func TestAnswersAreTheirOwners(t *testing.T) {
	r := rand.New(rand.NewSource(247))
	for range 5000 {
		want := someCommand(r)
		line := lineOf(want)
		x, _, _ := lines.Parse(line)
		was := unrolled(x)
		y, _, _ := lines.Parse(line)
		spoil(y)
		if !same(unrolled(x), was) {
			t.Fatalf("two answers of %q share memory", line)
		}
		wantsParse(t, line, want)
		// Nor another list of that one.
		fill(x.N, -99)
		_ = append(x.N, 1)
		if !slices.EqualFunc(x.X, want.X, real.Same) || !slices.Equal(x.S, want.S) {
			t.Fatalf("two lists of the answer of %q share memory", line)
		}
		spoil(x)
		if told := lines.Run("make 1 1 100 1\n" + line); told != lines.Run("make 1 1 100 1\n"+line) {
			t.Fatalf("Run(%q) tells %q", line, told)
		}
	}
}

// isWithin tells whether a text's bytes are those of a longer one.
func isWithin(s, long string) bool {
	from, at := uintptr(unsafe.Pointer(unsafe.StringData(long))), uintptr(unsafe.Pointer(unsafe.StringData(s)))
	return len(s) > 0 && from <= at && at < from+uintptr(len(long))
}

// TestTextsAreNew: a text that was read is no piece of the line, which would be kept with it.
func TestTextsAreNew(t *testing.T) {
	for line := range eachKind() {
		line = strings.Clone(line)
		c, _, _ := lines.Parse(line)
		for _, s := range c.S {
			if isWithin(s, line) {
				t.Errorf("%q is a piece of %q", s, line)
			}
		}
		// Nor is the line that is told a piece of a text, or the same each time.
		again, _ := lines.Print(c)
		for _, s := range c.S {
			if isWithin(s, again) {
				t.Errorf("%q is a piece of %q", s, again)
			}
		}
	}
}
