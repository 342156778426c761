package ring_test

import (
	"math"
	"math/rand"
	"slices"
	"strings"
	"testing"

	"gnomon/api"
	"gnomon/ring"
	"gnomon/snap"
)

// made tells a ring with room for n in which snapshots stand, of the times 10, 20 and so on.
func made(t *testing.T, n int, l ...api.Snapshot) *ring.Ring {
	t.Helper()
	g, e := ring.New(n)
	if e != api.OK || g == nil {
		t.Fatalf("New(%d): %v", n, e)
	}
	for i, s := range l {
		wantsPush(t, g, int64(10*i+10), s, api.OK)
	}
	return g
}

func wantsPush(t *testing.T, g *ring.Ring, at int64, s api.Snapshot, e api.Errno) {
	t.Helper()
	if got := g.Push(at, s); got != e {
		t.Errorf("Push(%d) of %v: %v, want %v", at, s, got, e)
	}
}

func wantsTimes(t *testing.T, g *ring.Ring, times ...int64) {
	t.Helper()
	if got := g.Times(); !slices.Equal(got, times) || g.Len() != len(times) {
		t.Errorf("Times %v, Len %d, want %v", got, g.Len(), times)
	}
}

func wantsWindow(t *testing.T, g *ring.Ring, from, to int64, want api.Snapshot, n int) {
	t.Helper()
	if s, k, e := g.Window(from, to); e != api.OK || k != n || !snap.Same(s, want) {
		t.Errorf("Window(%d, %d): %v, %d, %v, want %v, %d", from, to, s, k, e, want, n)
	}
}

func wantsNoWindow(t *testing.T, g *ring.Ring, from, to int64, e api.Errno) {
	t.Helper()
	if s, k, got := g.Window(from, to); got != e || k != 0 || !snap.Same(s, api.Snapshot{}) {
		t.Errorf("Window(%d, %d): %v, %d, %v, want %v", from, to, s, k, got, e)
	}
}

func wantsRate(t *testing.T, g *ring.Ring, name string, l []api.Label, from, to int64, x float64, e api.Errno) {
	t.Helper()
	if got, f := g.Rate(name, l, from, to); f != e || math.Float64bits(got) != math.Float64bits(x) {
		t.Errorf("Rate(%s, %v, %d, %d): %v, %v, want %v, %v", name, l, from, to, got, f, x, e)
	}
}

func TestExamples(t *testing.T) {
	g := made(t, 2, c(1), c(2))
	wantsPush(t, g, 20, c(3), api.ErrOrder)
	wantsTimes(t, g, 10, 20)
	wantsWindow(t, g, 0, 20, c(3), 2)
	wantsWindow(t, g, 10, 20, c(2), 1)
	wantsNoWindow(t, g, 20, 30, api.ErrEmpty)
	wantsPush(t, g, 25, c(4), api.OK)
	wantsTimes(t, g, 20, 25)
	wantsWindow(t, g, 0, 100, c(6), 2)
	wantsRate(t, g, "c", nil, 15, 25, 0.6, api.OK)
	wantsRate(t, g, "c", nil, 25, 25, 0, api.ErrArg)
	wantsRate(t, g, "d", nil, 15, 25, 0, api.ErrAbsent)
	wantsPush(t, g, 30, precise(c(1), 3), api.ErrUnlike)
	wantsPush(t, g, 30, of(histogram("c", 1)), api.ErrUnlike)
	wantsRate(t, g, "c", nil, first, last, 6/0x1p64, api.OK)
	// The ninth of the whole: of the times 10, 20, 30 a window from 10 to 30 has the last two, merged.
	wantsWindow(t, made(t, 3, c(1), c(2), c(4)), 10, 30, c(6), 2)
}

// P21.1: New.

func TestNew(t *testing.T) {
	for _, n := range []int{0, -1, api.MaxRing + 1, api.MaxRing + 2, -api.MaxRing, 2 * api.MaxRing, 1<<8 + 1, 1<<16 + 1, 1<<32 + 1, math.MaxInt, math.MinInt, math.MinInt + 1} {
		if g, e := ring.New(n); g != nil || e != api.ErrArg {
			t.Errorf("New(%d): %v, %v", n, g, e)
		}
	}
	for n := 1; n <= api.MaxRing; n++ {
		g := made(t, n)
		wantsTimes(t, g)
		wantsNoWindow(t, g, first, last, api.ErrEmpty)
		wantsRate(t, g, "c", nil, first, last, 0, api.ErrEmpty)
	}
}

// TestRoom: a ring has room for just n.
func TestRoom(t *testing.T) {
	for _, n := range []int{1, 2, 3, 17, api.MaxRing - 1, api.MaxRing} {
		g := made(t, n)
		var times []int64
		for i := range 2*n + 3 {
			wantsPush(t, g, int64(i*i), c(uint64(i)), api.OK)
			times = append(times, int64(i*i))
			wantsTimes(t, g, times[max(0, len(times)-n):]...)
		}
		sum := uint64(0)
		for i := n + 3; i < 2*n+3; i++ {
			sum += uint64(i)
		}
		wantsWindow(t, g, first, last, c(sum), n)
	}
}

// P21.2: Push.

// unlikes tells snapshots that can't stand beside s1 to s3 of TestPushUnlike.
func unlikes() []api.Snapshot {
	return []api.Snapshot{
		precise(of(), 1),
		precise(of(), 3),
		of(helped(counter("a", 1), "other")),
		of(helped(counter("b", 1), "")),
		of(helped(counter("c", 1), "all")),
		of(histogram("a", 1)),
		of(summary("a", 1, 1)),
		of(helped(histogram("b", 0), "help")),
		of(summary("c", 1, 1)),
		of(counter("h", 1)),
		of(summary("h", 1, 1)),
		of(counter("s", 1)),
		of(histogram("s", 1)),
		// Another series of the family is unlike, too.
		of(histogram("a", 1, "x", "1")),
		of(helped(counter("a", 1, "y", ""), "other")),
		of(counter("A", 1), counter("a0", 1), histogram("a1", 1), helped(counter("c", 1), "other"), counter("z", 1)),
	}
}

// likes tells snapshots that may.
func likes() []api.Snapshot {
	return []api.Snapshot{
		of(),
		refused(of(), mostOf64),
		of(counter("a", 1), helped(counter("b", 1), "help"), counter("c", 1), histogram("h", 4), summary("s", 1, 1)),
		of(counter("a", 1, "x", "1"), helped(counter("b", 1, "z", "1"), "help"), histogram("h", 1, "x", "1")),
		of(histogram("A", 1), helped(summary("aa", 1, 1), "x"), helped(summary("b_", 1, 1), "y"), histogram("d", 1), counter("hh", 1)),
		// Alone, nothing could stand beside these; that is looked at where both are told as one.
		of(wideCounter("a", greatest)),
		of(counters(0, api.MaxInstruments)...),
	}
}

// TestPushUnlike: each that is there counts, whichever place it stands at, the oldest one too that would go.
func TestPushUnlike(t *testing.T) {
	s1, s2, s3 := of(counter("a", 1), histogram("h", 2)), of(helped(counter("b", 1), "help")), of(counter("c", 1, "x", "1"), summary("s", 1, 1))
	for _, turned := range [][]api.Snapshot{{s1, s2, s3}, {s2, s3, s1}, {s3, s1, s2}} {
		for _, spare := range []int{0, 1} {
			for gone := range 4 {
				g := made(t, 3+spare)
				at := int64(0)
				push := func(s api.Snapshot, e api.Errno) {
					t.Helper()
					at++
					wantsPush(t, g, at, s, e)
				}
				for range gone {
					push(of(), api.OK)
				}
				for _, s := range turned {
					push(s, api.OK)
				}
				was := g.Times()
				for _, s := range unlikes() {
					push(s, api.ErrUnlike)
					wantsTimes(t, g, was...)
				}
				for _, s := range likes() {
					u := g.Copy()
					wantsPush(t, u, at+1, s, api.OK)
				}
			}
		}
	}
}

// TestPushUnlikeWhatIsGone: who is gone is in nobody's way; who would go is.
func TestPushUnlikeWhatIsGone(t *testing.T) {
	g := made(t, 1, c(1))
	wantsPush(t, g, 20, of(histogram("c", 1)), api.ErrUnlike)
	wantsPush(t, g, 20, precise(of(), 5), api.ErrUnlike)
	wantsTimes(t, g, 10)
	wantsPush(t, g, 20, of(counter("d", 1)), api.OK)
	wantsPush(t, g, 30, of(histogram("c", 1)), api.OK)
	wantsWindow(t, g, 0, 100, of(histogram("c", 1)), 1)

	g = made(t, 3, c(1), of(), of())
	wantsPush(t, g, 40, of(summary("c", 1, 1)), api.ErrUnlike)
	wantsPush(t, g, 40, of(), api.OK)
	wantsPush(t, g, 50, of(summary("c", 1, 1)), api.OK)
	wantsPush(t, g, 60, c(1), api.ErrUnlike)
	wantsTimes(t, g, 30, 40, 50)
}

func TestPushOrder(t *testing.T) {
	for _, at := range []int64{first, first + 1, -1, 0, 1, 1 << 32, last - 1} {
		g := made(t, 2)
		wantsPush(t, g, at, c(1), api.OK)
		for _, not := range []int64{at, at - 1, first, at - 1<<32, at / 2} {
			if not <= at {
				wantsPush(t, g, not, c(1), api.ErrOrder)
			}
		}
		wantsTimes(t, g, at)
		wantsPush(t, g, at+1, c(2), api.OK)
		wantsPush(t, g, at, c(1), api.ErrOrder)
		wantsPush(t, g, at+1, c(1), api.ErrOrder)
		wantsTimes(t, g, at, at+1)
		if at+1 < last {
			wantsPush(t, g, last, c(4), api.OK)
		}
		wantsPush(t, g, last, c(8), api.ErrOrder)
		wantsPush(t, g, first, c(8), api.ErrOrder)
	}
	// It is the last one's time that counts, wherever in the lists it stands.
	g := made(t, 3)
	for at := range int64(20) {
		wantsPush(t, g, 10*at, c(1), api.OK)
		for back := range int64(4) {
			wantsPush(t, g, 10*(at-back), c(1), api.ErrOrder)
			wantsPush(t, g, 10*(at-back)-5, c(1), api.ErrOrder)
		}
	}
}

// refusals tells snapshots that may not be, with their errors.
func refusals() map[api.Errno][]api.Snapshot {
	return map[api.Errno][]api.Snapshot{
		api.ErrArg:    {{}, precise(c(1), 0), precise(c(1), 15), precise(c(1), -2)},
		api.ErrMany:   {of(counters(0, 257)...)},
		api.ErrKind:   {of(api.Value{Desc: api.Desc{Name: "c"}})},
		api.ErrName:   {of(counter("", 1)), of(counter("é", 1))},
		api.ErrUtf:    {of(helped(counter("c", 1), "\xff"))},
		api.ErrRange:  {of(wideCounter("c", api.Int{Hi: -1})), of(summary("s", 0, 1))},
		api.ErrTwice:  {of(counter("c", 1), counter("c", 1))},
		api.ErrOrder:  {of(counter("d", 1), counter("c", 1))},
		api.ErrUnlike: {of(counter("c", 1), histogram("c", 1, "x", "1"))},
		api.ErrBytes:  {of(helped(counter("c", 1), strings.Repeat("a", api.MaxText+1)))},
	}
}

// TestPushRefused: snap.Check's error comes first, then the order, then what is unlike; nothing changes.
func TestPushRefused(t *testing.T) {
	empty, full, round := made(t, 2), made(t, 2, c(1), c(2)), made(t, 2, of(counter("d", 1)), c(1), c(2))
	for e, l := range refusals() {
		for _, s := range l {
			if got, _ := snap.Check(s); got != e {
				t.Fatalf("Check of %v: %v, want %v", s, got, e)
			}
			for _, at := range []int64{first, 0, 20, 30, 100, last} {
				wantsPush(t, empty, at, s, e)
				wantsPush(t, full, at, s, e)
				wantsPush(t, round, at, s, e)
			}
		}
	}
	for _, s := range []api.Snapshot{precise(c(1), 3), of(histogram("c", 1)), of(helped(counter("c", 1), "x"))} {
		wantsPush(t, full, 20, s, api.ErrOrder)
		wantsPush(t, full, first, s, api.ErrOrder)
		wantsPush(t, full, 21, s, api.ErrUnlike)
		wantsPush(t, round, 30, s, api.ErrOrder)
		wantsPush(t, round, 31, s, api.ErrUnlike)
	}
	wantsTimes(t, empty)
	wantsTimes(t, full, 10, 20)
	wantsWindow(t, full, first, last, c(3), 2)
	wantsWindow(t, full, 10, 20, c(2), 1)
	wantsTimes(t, round, 20, 30)
	wantsWindow(t, round, first, last, c(3), 2)
	wantsWindow(t, round, 20, 30, c(2), 1)
	// What was refused has left no trace: neither its precision, nor its time, nor its families.
	wantsPush(t, empty, first, precise(of(histogram("c", 1)), 7), api.OK)
	wantsPush(t, full, 21, c(4), api.OK)
	wantsWindow(t, full, first, last, c(6), 2)
}

// P21.4: Window.

func TestWindowEnds(t *testing.T) {
	g := made(t, 3, c(64), c(1), c(2), c(4))
	wantsTimes(t, g, 20, 30, 40)
	for _, w := range []struct {
		from, to int64
		sum      uint64
		n        int
	}{
		{19, 20, 1, 1}, {19, 29, 1, 1}, {first, 20, 1, 1}, {0, 29, 1, 1}, {19, 30, 3, 2}, {19, 39, 3, 2}, {19, 40, 7, 3}, {first, last, 7, 3},
		{20, 30, 2, 1}, {20, 39, 2, 1}, {20, 40, 6, 2}, {29, 30, 2, 1}, {29, last, 6, 2}, {30, 40, 4, 1}, {39, 40, 4, 1}, {39, last, 4, 1}, {10, 41, 7, 3},
	} {
		wantsWindow(t, g, w.from, w.to, c(w.sum), w.n)
	}
	for _, w := range [][2]int64{{20, 20}, {19, 19}, {20, 19}, {20, 29}, {40, 19}, {40, 20}, {40, 50}, {40, last}, {first, 19}, {last, first}, {first, first}, {last, last}, {30, 30}, {0, 10}} {
		wantsNoWindow(t, g, w[0], w[1], api.ErrEmpty)
	}
	g = made(t, 2)
	wantsPush(t, g, first, c(1), api.OK)
	wantsPush(t, g, last, c(2), api.OK)
	wantsWindow(t, g, first, last, c(2), 1)
	wantsNoWindow(t, g, first, last-1, api.ErrEmpty)
	wantsNoWindow(t, g, last, last, api.ErrEmpty)
}

// TestWindowOfOne: what was pushed comes out as it was, its own edges too.
func TestWindowOfOne(t *testing.T) {
	minus := math.Copysign(0, -1)
	still := api.Value{Desc: api.Desc{Kind: api.Summary, Name: "s", Help: "ü\n", Labels: labels("x", "", "y", "2")}, N: math.MaxInt64, Sum: minus, Min: minus, Max: 0}
	for _, s := range []api.Snapshot{
		of(), refused(of(), mostOf64), precise(of(), 14), of(still), of(wideCounter("c", greatest)), of(histogram("h", math.MaxInt64)), of(histogram("h", 0)),
		of(counters(0, api.MaxInstruments)...), refused(of(counter("c", 1), counter("c", 2, "x", "1"), histogram("h", 5), still), 3),
	} {
		wantsWindow(t, made(t, 1, s), 9, 10, s, 1)
		wantsWindow(t, made(t, 1, precise(of(), s.Precision), s), first, last, s, 1)
	}
}

func TestWindowOfSeveral(t *testing.T) {
	g := made(t, 4,
		refused(of(counter("a", 1), histogram("h", 1), summary("s", 1, 0.1)), 1),
		refused(of(counter("a", 2, "x", "1"), histogram("h", 2), summary("s", 2, 0.2)), 2),
		refused(of(counter("a", 4), counter("b", 8), summary("s", 1, 0.3)), 4))
	wantsWindow(t, g, 0, 20, refused(of(counter("a", 1), counter("a", 2, "x", "1"), histogram("h", 3), summary("s", 3, 0.30000000000000004)), 3), 2)
	wantsWindow(t, g, 10, 30, refused(of(counter("a", 4), counter("a", 2, "x", "1"), counter("b", 8), histogram("h", 2), summary("s", 3, 0.5)), 6), 2)
	wantsWindow(t, g, 0, 30, refused(of(counter("a", 5), counter("a", 2, "x", "1"), counter("b", 8), histogram("h", 3), summary("s", 4, 0.6000000000000001)), 7), 3)
}

// TestWindowIsMergedFromTheOldestOn: floats' sums tell in which order they were added, also round the ring's end.
func TestWindowIsMergedFromTheOldestOn(t *testing.T) {
	sums := func(l ...float64) []api.Snapshot {
		var out []api.Snapshot
		for _, x := range l {
			out = append(out, of(summary("s", 1, x)))
		}
		return out
	}
	for _, w := range []struct {
		l    []float64
		want float64
	}{
		{[]float64{1e16, 1, -1e16}, 0}, {[]float64{1, 1e16, -1e16}, 0}, {[]float64{1e16, -1e16, 1}, 1}, {[]float64{0.1, 0.2, 0.3}, 0.6000000000000001}, {[]float64{0.3, 0.2, 0.1}, 0.6},
		{[]float64{0x1p1023, -0x1p1023, 0x1p1023}, 0x1p1023},
	} {
		for gone := range 5 {
			g := made(t, 3, slices.Concat(sums(make([]float64, gone)...), sums(w.l...))...)
			wantsWindow(t, g, int64(10*gone), last, of(summary("s", 3, w.want)), 3)
		}
	}
	g := made(t, 3, sums(0x1p1023, 0x1p1023, -0x1p1023)...)
	wantsNoWindow(t, g, 0, 30, api.ErrRange)
	wantsWindow(t, g, 10, 30, of(summary("s", 2, 0)), 2)
}

// TestWindowRefused: the first Merge that is refused tells the error, and none behind it is looked at.
func TestWindowRefused(t *testing.T) {
	much, more := of(wideCounter("c", api.Int{Hi: 1 << 62})), of(summary("s", 1, 0x1p1023))
	wantsNoWindow(t, made(t, 4, much, more, more, much), 0, 40, api.ErrRange)
	wantsNoWindow(t, made(t, 4, more, much, much, more), 0, 40, api.ErrMany)
	wantsNoWindow(t, made(t, 2, much, more, more, much, much), 0, 100, api.ErrMany)
	wantsNoWindow(t, made(t, 3, much, much, more, more, of()), 0, 100, api.ErrRange)
	for _, two := range [][2]api.Snapshot{
		{much, much}, {of(wideCounter("c", greatest)), c(1)}, {refused(c(1), mostOf64), refused(c(1), 1)}, {of(histogram("h", 1<<62)), of(histogram("h", 1<<62))},
		{of(summary("s", math.MaxInt64, 1)), of(summary("s", 1, 1))}, {of(counters(0, 256)...), of(counters(256, 1)...)},
	} {
		g := made(t, 4, of(), two[0], two[1], of())
		wantsNoWindow(t, g, 0, 40, api.ErrMany)
		wantsNoWindow(t, g, 10, 30, api.ErrMany)
		wantsWindow(t, g, 10, 20, two[0], 1)
		wantsWindow(t, g, 0, 20, two[0], 2)
		wantsWindow(t, g, 20, 30, two[1], 1)
		wantsWindow(t, g, 20, 40, two[1], 2)
		wantsTimes(t, g, 10, 20, 30, 40)
	}
	wantsWindow(t, made(t, 2, of(wideCounter("c", api.Int{Hi: 1 << 62})), of(wideCounter("c", api.Int{Hi: 1<<62 - 1, Lo: mostOf64}))), 0, 20, of(wideCounter("c", greatest)), 2)
}

// P21.5: Rate.

// TestRateErrors: each one ahead of those behind it.
func TestRateErrors(t *testing.T) {
	much := of(wideCounter("c", api.Int{Hi: 1 << 62}), histogram("h", 1), summary("s", 1, 1))
	g := made(t, 3, of(counter("c", 1, "x", "1", "y", "2"), histogram("h", 1)), much, much)
	for _, w := range [][2]int64{{20, 20}, {20, 19}, {20, 10}, {last, first}, {first, first}, {last, last}, {40, 30}, {0, -1}} {
		for _, name := range []string{"c", "h", "d", ""} {
			wantsRate(t, g, name, nil, w[0], w[1], 0, api.ErrArg)
		}
	}
	for _, name := range []string{"c", "h", "d", ""} {
		wantsRate(t, g, name, nil, 30, 40, 0, api.ErrEmpty)
		wantsRate(t, g, name, nil, first, 9, 0, api.ErrEmpty)
		wantsRate(t, g, name, nil, 10, 30, 0, api.ErrMany)
		wantsRate(t, g, name, nil, first, last, 0, api.ErrMany)
	}
	for _, name := range []string{"d", "", "C", "c_total", "\xff", "s"} {
		wantsRate(t, g, name, nil, 0, 10, 0, api.ErrAbsent)
	}
	for _, l := range [][]api.Label{nil, {}, labels("x", "1"), labels("y", "2"), labels("y", "2", "x", "1"), labels("x", "1", "y", ""), labels("x", "1", "y", "2", "z", ""), labels("", "")} {
		wantsRate(t, g, "c", l, 0, 10, 0, api.ErrAbsent)
	}
	wantsRate(t, g, "h", labels("x", "1"), 0, 10, 0, api.ErrAbsent)
	wantsRate(t, g, "h", nil, 0, 10, 0, api.ErrKind)
	wantsRate(t, g, "h", nil, 0, 20, 0, api.ErrKind)
	wantsRate(t, g, "s", nil, 10, 20, 0, api.ErrKind)
	wantsRate(t, g, "c", labels("x", "1", "y", "2"), 0, 10, 0.1, api.OK)
	wantsRate(t, g, "c", nil, 0, 20, 0x1p126/20, api.OK)
	wantsRate(t, g, "c", []api.Label{}, 10, 20, 0x1p126/10, api.OK)
}

// TestRate: the whole window's length counts, not that between the snapshots in it.
func TestRate(t *testing.T) {
	g := made(t, 3, c(1), c(2), c(4))
	wantsRate(t, g, "c", nil, 9, 10, 1, api.OK)
	wantsRate(t, g, "c", nil, 0, 10, 0.1, api.OK)
	wantsRate(t, g, "c", nil, 10, 30, 0.3, api.OK)
	wantsRate(t, g, "c", nil, 0, 30, 7.0/30, api.OK)
	wantsRate(t, g, "c", nil, -70, 30, 0.07, api.OK)
	wantsRate(t, g, "c", nil, 29, 1029, 0.004, api.OK)
	wantsRate(t, made(t, 1, c(0)), "c", nil, 0, 10, 0, api.OK)
	wantsRate(t, made(t, 1, c(0)), "c", nil, first, last, 0, api.OK)
	wantsRate(t, made(t, 1, of(wideCounter("c", greatest))), "c", nil, 9, 10, 0x1p127, api.OK)
	// 2^53 + 1 and 2^53 + 3 lie half way between two floats: so do lengths as these.
	wantsRate(t, made(t, 1, c(1<<53+1)), "c", nil, 9, 10, 0x1p53, api.OK)
	wantsRate(t, made(t, 1, c(1<<53+3)), "c", nil, 9, 10, 0x1p53+4, api.OK)
	wantsRate(t, made(t, 1, c(1<<53)), "c", nil, 0, 1<<53+1, 1, api.OK)
	wantsRate(t, made(t, 1, c(1<<53+4)), "c", nil, 0, 1<<53+3, 1, api.OK)
}

// TestRateOfLongWindows: lengths about 2^63 and 2^64, and those half way between two floats there.
func TestRateOfLongWindows(t *testing.T) {
	g := made(t, 1)
	wantsPush(t, g, 0, c(1), api.OK)
	for _, w := range []struct {
		from, to int64
		length   float64
	}{
		{-1, last, 0x1p63}, {-2, last, 0x1p63}, {first, 0, 0x1p63}, {first, 1, 0x1p63},
		{first, 1023, 0x1p63}, {first, 1024, 0x1p63}, {first, 1025, 0x1p63 + 2048}, {first, 3071, 0x1p63 + 2048}, {first, 3072, 0x1p63 + 4096}, {first, 3073, 0x1p63 + 4096},
		{-1025, last, 0x1p63}, {-1026, last, 0x1p63 + 2048}, {-3072, last, 0x1p63 + 2048}, {-3073, last, 0x1p63 + 4096},
		{-1, last - 511, 0x1p63}, {-1, last - 512, 0x1p63}, {-1, last - 513, 0x1p63 - 1024}, {-1, last - 1024, 0x1p63 - 1024},
		{first, last, 0x1p64}, {first, last - 1, 0x1p64}, {first + 1, last, 0x1p64}, {first, last - 1023, 0x1p64}, {first, last - 1024, 0x1p64 - 2048}, {first + 1025, last, 0x1p64 - 2048},
		{first, last - 3071, 0x1p64 - 4096}, {first, last - 3070, 0x1p64 - 2048}, {-1 << 62, 1 << 62, 0x1p63}, {-1 << 62, 1<<62 + 1024, 0x1p63}, {-1<<62 - 1, 1<<62 + 1024, 0x1p63 + 2048},
	} {
		wantsRate(t, g, "c", nil, w.from, w.to, 1/w.length, api.OK)
	}
}

// TestRateIsRoundedOnce holds it against quotients that are worked out as fractions.
func TestRateIsRoundedOnce(t *testing.T) {
	r := rand.New(rand.NewSource(215))
	for range 20000 {
		total := api.Int{Hi: r.Int63() >> r.Intn(64), Lo: r.Uint64() >> r.Intn(64)}
		at := int64(r.Uint64()) >> r.Intn(64)
		from, to := int64(r.Uint64())>>r.Intn(64), int64(r.Uint64())>>r.Intn(64)
		if from >= at || to < at {
			continue
		}
		g := made(t, 1)
		wantsPush(t, g, at, of(wideCounter("c", total)), api.OK)
		wantsRate(t, g, "c", nil, from, to, quotient(total, from, to), api.OK)
	}
}

// P21.6: Copy.

func TestCopy(t *testing.T) {
	for gone := range 5 {
		for n := range 4 {
			g := made(t, 3)
			at := int64(0)
			var times []int64
			for i := range gone + n {
				at += 10
				wantsPush(t, g, at, c(1<<i), api.OK)
				times = append(times, at)
			}
			times = times[max(0, len(times)-3):]
			u := g.Copy()
			wantsTimes(t, u, times...)
			wantsPush(t, u, at+5, c(1000), api.OK)
			wantsPush(t, u, at+6, c(1000), api.OK)
			wantsTimes(t, g, times...)
			v := g.Copy()
			for i := range int64(7) {
				wantsPush(t, g, at+10+i, c(5000), api.OK)
			}
			wantsTimes(t, g, at+14, at+15, at+16)
			wantsTimes(t, v, times...)
			more := append(slices.Clone(times), at+5, at+6)
			wantsTimes(t, u, more[max(0, len(more)-3):]...)
			wantsWindow(t, u, at, last, c(2000), 2)
			wantsWindow(t, g, first, last, c(15000), 3)
			if len(times) > 0 {
				wantsWindow(t, v, at-1, last, c(1<<(gone+n-1)), 1)
			} else {
				wantsNoWindow(t, v, first, last, api.ErrEmpty)
			}
		}
	}
}

// TestCopyHasTheRoom: a copy has room for as many, and refuses what the ring refuses.
func TestCopyHasTheRoom(t *testing.T) {
	for _, n := range []int{1, 2, 5, api.MaxRing} {
		for _, there := range []int{0, 1, n / 2, n, n + 1, 2*n - 1} {
			g := made(t, n)
			for i := range there {
				wantsPush(t, g, int64(i), c(1), api.OK)
			}
			u := g.Copy().Copy()
			if there > 0 {
				wantsPush(t, u, int64(there-1), c(1), api.ErrOrder)
				wantsPush(t, u, int64(there), precise(c(1), 3), api.ErrUnlike)
			}
			var times []int64
			for i := range n + 1 {
				wantsPush(t, u, int64(there+i), c(1), api.OK)
				times = append(times, int64(there+i))
			}
			wantsTimes(t, u, times[1:]...)
			wantsWindow(t, u, first, last, c(uint64(n)), n)
		}
	}
}

// P21.7: what follows.

// withoutSums tells a snapshot without the Sums of floats.
func withoutSums(s api.Snapshot) api.Snapshot {
	s = deep(s)
	for i := range s.Values {
		s.Values[i].Sum = 0
	}
	return s
}

// TestWindowsCutInTwo: two windows, one behind the other, merged, are the whole one.
func TestWindowsCutInTwo(t *testing.T) {
	r := rand.New(rand.NewSource(217))
	cut := 0
	for range 3000 {
		g := made(t, 1+r.Intn(6))
		for at := range int64(r.Intn(12)) {
			wantsPush(t, g, 2*at, some(r), api.OK)
		}
		l := []int64{int64(r.Intn(26)) - 1, int64(r.Intn(26)) - 1, int64(r.Intn(26)) - 1}
		slices.Sort(l)
		s1, n1, e1 := g.Window(l[0], l[1])
		s2, n2, e2 := g.Window(l[1], l[2])
		whole, n, e := g.Window(l[0], l[2])
		if e1 != api.OK || e2 != api.OK || e != api.OK {
			continue
		}
		cut++
		two, f := snap.Merge(s1, s2)
		if f != api.OK || n != n1+n2 || !snap.Same(withoutSums(two), withoutSums(whole)) {
			t.Fatalf("cut in two at %d: %v, %d, %v, whole %v, %d", l[1], two, n1+n2, f, whole, n)
		}
	}
	if cut < 300 {
		t.Errorf("too little was tried: %d", cut)
	}
}

// TestMoreRoom: a ring with room for more tells of the last n what one with room for n tells.
func TestMoreRoom(t *testing.T) {
	r := rand.New(rand.NewSource(218))
	gone := 0
	for range 1000 {
		n := 1 + r.Intn(5)
		narrow, roomier := made(t, n), made(t, n+1+r.Intn(6))
		at := int64(0)
		for range r.Intn(15) {
			at += 1 + int64(r.Intn(3))
			s := some(r)
			wantsPush(t, narrow, at, s, api.OK)
			wantsPush(t, roomier, at, s, api.OK)
		}
		times := roomier.Times()
		if len(times) > n {
			gone++
			times = times[len(times)-n:]
		}
		wantsTimes(t, narrow, times...)
		if len(times) == 0 {
			continue
		}
		for range 4 {
			from := times[0] - 1 + int64(r.Intn(8))
			to := from + int64(r.Intn(12))
			s1, n1, e1 := narrow.Window(from, to)
			s2, n2, e2 := roomier.Window(from, to)
			x1, f1 := narrow.Rate("c", nil, from, to)
			x2, f2 := roomier.Rate("c", nil, from, to)
			if !snap.Same(s1, s2) || n1 != n2 || e1 != e2 || x1 != x2 || f1 != f2 {
				t.Fatalf("Window(%d, %d): %v, %d, %v; with more room %v, %d, %v", from, to, s1, n1, e1, s2, n2, e2)
			}
		}
	}
	if gone < 200 {
		t.Errorf("too little was tried: %d", gone)
	}
}

// TestFullRing: as many snapshots as may be, of as many values as may be.
func TestFullRing(t *testing.T) {
	g := made(t, api.MaxRing)
	for at := range int64(api.MaxRing + 20) {
		wantsPush(t, g, at, of(counters(0, api.MaxInstruments)...), api.OK)
	}
	s, n, e := g.Window(first, last)
	if e != api.OK || n != api.MaxRing || len(s.Values) != api.MaxInstruments {
		t.Fatalf("%d values of %d, %v", len(s.Values), n, e)
	}
	for i, v := range s.Values {
		if v.Total.Lo != uint64(api.MaxRing*i) {
			t.Errorf("the value %d: %v", i, v)
		}
	}
}
