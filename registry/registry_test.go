package registry_test

import (
	"fmt"
	"math"
	"math/rand"
	"slices"
	"strings"
	"sync"
	"sync/atomic"
	"testing"
	"time"

	"gnomon/api"
	"gnomon/gate"
	"gnomon/recorder"
	"gnomon/registry"
	"gnomon/snap"
)

const (
	greatest = math.MaxInt64
	least    = math.MinInt64
)

var (
	minusZero = math.Copysign(0, -1)
	inf       = math.Inf(1)
	nan       = math.NaN()
)

// recordKinds are the calls that record, in the order of the kinds of instruments.
var recordKinds = []int{api.CallAdd, api.CallObserve, api.CallSample}

// noWholes and noFloats may not be recorded; the wholes and floats, edges among them, may.
var (
	noWholes = []int64{-1, -2, -1 << 31, -1 << 32, least, least + 1}
	noFloats = []float64{nan, -nan, inf, -inf, 0x1p961, -0x1p961, math.Nextafter(0x1p960, inf), math.Nextafter(-0x1p960, -inf), math.MaxFloat64, -math.MaxFloat64}
	wholes   = []int64{0, 1, 2, 3, 7, 8, 255, 256, 1<<31 - 1, 1 << 31, 1 << 32, 1<<53 + 1, 1 << 62, greatest - 1, greatest}
	floats   = []float64{0, minusZero, 1, -1, 2.5, 0.1, -0.3, 1e16, -1e16, 0x1p53, 3, 0x1p960, -0x1p960, math.SmallestNonzeroFloat64, -math.SmallestNonzeroFloat64}
)

// noNumbers are numbers that no instrument of a few has.
var noNumbers = []int{-1, -2, 9, 255, 256, 257, 1 << 16, 1 << 32, 1<<32 + 1, math.MaxInt, math.MinInt, math.MinInt + 1}

// labels tells names and values by turns as labels.
func labels(l ...string) (out []api.Label) {
	for i := 0; i < len(l); i += 2 {
		out = append(out, api.Label{Name: l[i], Value: l[i+1]})
	}
	return out
}

func desc(kind int, name string, l ...string) api.Desc {
	return api.Desc{Kind: kind, Name: name, Labels: labels(l...)}
}

func counter(name string, l ...string) api.Desc { return desc(api.Counter, name, l...) }

func histogram(name string, l ...string) api.Desc { return desc(api.Histogram, name, l...) }

func summary(name string, l ...string) api.Desc { return desc(api.Summary, name, l...) }

// made makes a registry.
func made(t *testing.T, c api.Config) *registry.Registry {
	t.Helper()
	r, e := registry.New(c)
	if e != api.OK || r == nil {
		t.Fatalf("New(%+v): there: %t, %v", c, r != nil, e)
	}
	return r
}

// example is the config of the document's examples.
var example = api.Config{Stripes: 2, Precision: 2, Cells: 1000}

// with makes a registry of some instruments, whose numbers are their places.
func with(t *testing.T, c api.Config, l ...api.Desc) *registry.Registry {
	t.Helper()
	r := made(t, c)
	for want, d := range l {
		registers(t, r, d, want, api.OK)
	}
	return r
}

// registers asks for an instrument's number.
func registers(t *testing.T, r *registry.Registry, d api.Desc, want int, wantE api.Errno) {
	t.Helper()
	if id, e := r.Register(nil, d); id != want || e != wantE {
		t.Fatalf("Register(%+v): %d, %v, not %d, %v", d, id, e, want, wantE)
	}
}

// taken takes a recorder.
func taken(t *testing.T, r *registry.Registry, want int) *recorder.Recorder {
	t.Helper()
	x, e := r.Recorder(nil)
	if e != api.OK || x.Stripe() != want || x.Closed() {
		t.Fatalf("Recorder: there: %t, %v, not the stripe %d", x != nil, e, want)
	}
	return x
}

// full asks for a recorder where none is free.
func full(t *testing.T, r *registry.Registry) {
	t.Helper()
	if x, e := r.Recorder(nil); x != nil || e != api.ErrFull {
		t.Fatalf("Recorder: there: %t, %v", x != nil, e)
	}
}

// same tells whether two things are told alike: of floats that means bit by bit, and a list without elements is one, nil or not.
func same(a, b any) bool { return fmt.Sprintf("%+v", a) == fmt.Sprintf("%+v", b) }

// wants holds a thing against another one.
func wants(t *testing.T, what, got, want any) {
	t.Helper()
	if !same(got, want) {
		t.Fatalf("%+v:\n%+v, not\n%+v", what, got, want)
	}
}

// tally is what a gate tells of a call.
type tally struct{ steps, polls, point int }

// alone lets one call go to its end by itself, and tells its tally.
func alone(do func(g *gate.Gate)) (out tally) {
	gate.Run([]func(g *gate.Gate){func(g *gate.Gate) {
		g.Begin()
		do(g)
		out.steps, out.polls, out.point = g.Tally()
	}}, nil, true)
	return out
}

// upTo lets something do its first n steps, and no more.
func upTo(n int, do func(g *gate.Gate)) {
	gate.Run([]func(g *gate.Gate){do}, make([]int, n), false)
}

// isHeld tells whether the lock is held; if it is, nothing more that wants it is to be asked of that registry.
func isHeld(r *registry.Registry) bool {
	ended := false
	upTo(3, func(g *gate.Gate) {
		r.Totals(g)
		ended = true
	})
	return !ended
}

// counts tells a snapshot of counters.
func counts(p int, refused uint64, d []api.Desc, totals ...uint64) api.Snapshot {
	s := api.Snapshot{Precision: p, Refused: refused}
	for i, n := range totals {
		s.Values = append(s.Values, api.Value{Desc: d[i], Total: api.Int{Lo: n}})
	}
	return s
}

// P15.1: every call answers as said and does just the steps that are said, whoever's step comes between.

func TestExampleOfRegister(t *testing.T) {
	r := made(t, example)
	other := counter("c", "a", "x")
	other.Help = "other"
	registers(t, r, counter("c"), 0, api.OK)
	registers(t, r, counter("c"), 0, api.OK)
	registers(t, r, histogram("c"), 0, api.ErrUnlike)
	registers(t, r, counter("c", "a", "x"), 1, api.OK)
	registers(t, r, other, 0, api.ErrUnlike)
}

func TestExampleOfRecorders(t *testing.T) {
	r := made(t, example)
	x := taken(t, r, 0)
	taken(t, r, 1)
	full(t, r)
	if a, b := r.Release(nil, x), r.Release(nil, x); a != api.OK || b != api.ErrState {
		t.Errorf("Release, Release: %v, %v", a, b)
	}
	taken(t, r, 0)
	full(t, r)
}

func TestExampleOfRecords(t *testing.T) {
	d := []api.Desc{counter("c"), counter("c", "a", "x")}
	r := with(t, example, d...)
	x, y := taken(t, r, 0), taken(t, r, 1)
	r.Release(nil, x)
	for _, c := range []struct{ got, want api.Errno }{
		{r.Add(nil, x, 0, 5), api.ErrState},
		{r.Add(nil, y, 0, 7), api.OK},
		{r.Add(nil, y, 9, 1), api.ErrAbsent},
		{r.Observe(nil, y, 0, 1), api.ErrKind},
	} {
		if c.got != c.want {
			t.Errorf("%v, not %v", c.got, c.want)
		}
	}
	wants(t, "Totals", r.Totals(nil), counts(2, 0, d, 0, 0))
	wants(t, "Reset", r.Reset(nil), counts(2, 2, d, 7, 0))
	wants(t, "Reset", r.Reset(nil), counts(2, 0, d, 0, 0))
	wants(t, "Totals", r.Totals(nil), counts(2, 2, d, 7, 0))
}

func TestExampleOfRoom(t *testing.T) {
	registers(t, made(t, api.Config{Stripes: 2, Precision: 2, Cells: 4}), counter("c"), 0, api.ErrRoom)
	registers(t, made(t, api.Config{Stripes: 2, Precision: 2, Cells: 7}), counter("c"), 0, api.ErrRoom)
	registers(t, made(t, api.Config{Stripes: 2, Precision: 2, Cells: 8}), counter("c"), 0, api.OK)
}

// The first of the document's examples of the whole.
func TestExampleOfTwoThreads(t *testing.T) {
	d := []api.Desc{counter("c")}
	r := with(t, example, d...)
	for i, n := range []int64{5, 7} {
		r.Add(nil, taken(t, r, i), 0, n)
	}
	wants(t, "Reset", r.Reset(nil), counts(2, 0, d, 12))
	wants(t, "Reset", r.Reset(nil), counts(2, 0, d, 0))
	wants(t, "Totals", r.Totals(nil), counts(2, 0, d, 12))
}

// The second one: a thread rests that has loaded the buffer 0; a Reset polls, while another thread's Add goes into the buffer 1, and ends.
func TestExampleOfAThreadThatRests(t *testing.T) {
	d := []api.Desc{counter("c")}
	r := with(t, example, d...)
	x, y := taken(t, r, 0), taken(t, r, 1)
	var ends []string
	var told api.Snapshot
	first := func(g *gate.Gate) {
		r.Add(g, x, 0, 5)
		ends = append(ends, "first")
	}
	other := func(g *gate.Gate) {
		r.Add(g, y, 0, 7)
		ends = append(ends, "other")
	}
	reset := func(g *gate.Gate) {
		told = r.Reset(g)
		steps, polls, point := g.Tally()
		wants(t, "the Reset", tally{steps, polls, point}, tally{16, 3, 5})
		ends = append(ends, "reset")
	}
	picks := append([]int{0, 0, 2, 2, 2, 2, 2, 2, 2, 2, 1, 1, 1, 1, 2, 0, 0}, slices.Repeat([]int{2}, 7)...)
	gate.Run([]func(g *gate.Gate){first, other, reset}, picks, false)
	wants(t, "ends", ends, []string{"other", "first", "reset"})
	wants(t, "the Reset", told, counts(2, 0, d, 5))
	wants(t, "Totals", r.Totals(nil), counts(2, 0, d, 5))
	wants(t, "the next Reset", r.Reset(nil), counts(2, 0, d, 7))
	wants(t, "Totals", r.Totals(nil), counts(2, 0, d, 12))
}

// The fourth and the seventh one: a sum keeps what rounding lost, from one Reset to the next one too; floats that may not be are counted.
func TestExampleOfFloats(t *testing.T) {
	d := summary("s")
	r := with(t, example, d)
	x := taken(t, r, 0)
	sample := func(l ...float64) {
		for _, v := range l {
			if e := r.Sample(nil, x, 0, v); e != api.OK {
				t.Fatalf("Sample(%v): %v", v, e)
			}
		}
	}
	one := func(n uint64, sum, least, greatest float64, refused uint64) api.Snapshot {
		return api.Snapshot{Precision: 2, Refused: refused, Values: []api.Value{{Desc: d, N: n, Sum: sum, Min: least, Max: greatest}}}
	}
	sample(0.1, 0.2)
	wants(t, "0.1, 0.2", r.Reset(nil), one(2, 0.30000000000000004, 0.1, 0.2, 0))
	wants(t, "Totals", r.Totals(nil), one(2, 0.30000000000000004, 0.1, 0.2, 0))
	sample(-0.1, -0.2)
	r.Reset(nil)
	sample(1e16, 1)
	wants(t, "1e16, 1", r.Reset(nil), one(2, 1e16, 1, 1e16, 0))
	sample(-1e16)
	if a, b := r.Sample(nil, x, 0, nan), r.Sample(nil, x, 0, 0x1p961); a != api.ErrRange || b != api.ErrRange {
		t.Errorf("Sample of NaN, 2^961: %v, %v", a, b)
	}
	wants(t, "-1e16", r.Reset(nil), one(1, -1e16, -1e16, -1e16, 2))
	wants(t, "Totals", r.Totals(nil), one(7, 1, -1e16, 1e16, 2))
	wants(t, "Reset of nothing", r.Reset(nil), one(0, 0, 0, 0, 0))
	wants(t, "Totals", r.Totals(nil), one(7, 1, -1e16, 1e16, 2))
}

// The fifth one: a histogram has the registry's precision.
func TestExampleOfPrecision(t *testing.T) {
	d := histogram("h")
	for p, want := range []int{1: 13, 2: 22, 3: 36} {
		if p == 0 {
			continue
		}
		r := with(t, api.Config{Stripes: 1, Precision: p, Cells: 5000}, d)
		if e := r.Observe(nil, taken(t, r, 0), 0, 100); e != api.OK {
			t.Fatal(e)
		}
		v := api.Value{Desc: d, Total: api.Int{Lo: 100}, Counts: []api.Count{{Index: want, N: 1}}, N: 1}
		s := r.Reset(nil)
		wants(t, p, s, api.Snapshot{Precision: p, Values: []api.Value{v}})
		wants(t, p, r.Totals(nil), s)
	}
}

// Every config: those that may not be, and those beside them that may.
func TestConfigs(t *testing.T) {
	stripes := []int{math.MinInt, -1, 0, 1, 2, 15, 16, 17, 18, 1<<8 + 1, 1<<32 + 1, math.MaxInt}
	precisions := []int{math.MinInt, -1, 0, 1, 2, 13, 14, 15, 16, 1<<8 + 1, 1<<32 + 1, math.MaxInt}
	cells := []int{math.MinInt, -1, 0, 1, 2, 1000, 1048575, 1048576, 1048577, 1 << 21, 1<<32 + 1, math.MaxInt}
	good := 0
	for _, s := range stripes {
		for _, p := range precisions {
			for _, n := range cells {
				c := api.Config{Stripes: s, Precision: p, Cells: n}
				may := s >= 1 && s <= 16 && p >= 1 && p <= 14 && n >= 1 && n <= 1048576
				r, e := registry.New(c)
				if !may {
					if r != nil || e != api.ErrArg {
						t.Errorf("New(%+v): there: %t, %v", c, r != nil, e)
					}
					continue
				}
				good++
				if r == nil || e != api.OK {
					t.Fatalf("New(%+v): there: %t, %v", c, r != nil, e)
				}
				wants(t, c, r.Totals(nil), api.Snapshot{Precision: p})
				wants(t, c, r.Reset(nil), api.Snapshot{Precision: p})
				for want := range s {
					taken(t, r, want)
				}
				full(t, r)
			}
		}
	}
	if good != 4*4*5 {
		t.Errorf("%d configs may be", good)
	}
}

// What label.Check says of a description is told without a step, whatever else is wrong; nothing is registered.
func TestRegisterOfWhatMayNotBe(t *testing.T) {
	long := strings.Repeat("x", api.MaxText+1)
	var many []string
	for i := range api.MaxLabels + 1 {
		many = append(many, "a"+string(rune('a'+i)), "")
	}
	for _, c := range []struct {
		d api.Desc
		e api.Errno
	}{
		{api.Desc{}, api.ErrKind},
		{desc(4, "c"), api.ErrKind},
		{desc(-1, "1"), api.ErrKind},
		{counter(""), api.ErrName},
		{counter("c_count"), api.ErrName},
		{api.Desc{Kind: api.Counter, Name: "c", Help: long}, api.ErrBytes},
		{api.Desc{Kind: api.Counter, Name: "c", Help: "\xff"}, api.ErrUtf},
		{counter("c", many...), api.ErrMany},
		{counter("c", "le", "1"), api.ErrName},
		{counter("c", "a", long), api.ErrBytes},
		{counter("c", "a", "\xff"), api.ErrUtf},
		{counter("c", "a", "1", "a", "2"), api.ErrTwice},
		{counter("c", "b", "1", "a", "2"), api.ErrOrder},
	} {
		// A registry without room, which has an instrument of the same name, of another help.
		d := api.Desc{Kind: api.Summary, Name: "c", Help: "other"}
		for _, r := range []*registry.Registry{made(t, api.Config{Stripes: 1, Precision: 1, Cells: 1}), with(t, api.Config{Stripes: 1, Precision: 1, Cells: 10}, d)} {
			was := r.Totals(nil)
			id, e := 9, api.OK
			got := alone(func(g *gate.Gate) { id, e = r.Register(g, c.d) })
			if id != 0 || e != c.e || got != (tally{}) {
				t.Errorf("Register(%+v): %d, %v, not %v; %+v", c.d, id, e, c.e, got)
			}
			registers(t, r, c.d, 0, c.e)
			wants(t, c.d, r.Totals(nil), was)
		}
	}
}

// Whoever comes first makes a family's kind and help; an instrument of the same series, or of the same name, that is unlike is told ahead of all that is about room.
func TestUnlikeOnes(t *testing.T) {
	of := func(kind int, name, help string, l ...string) api.Desc {
		d := desc(kind, name, l...)
		d.Help = help
		return d
	}
	for _, first := range []api.Desc{of(api.Counter, "a", "h"), of(api.Summary, "a", ""), of(api.Counter, "a", "h", "x", "1", "y", "2"), of(api.Summary, "a", "", "x", "")} {
		for _, cells := range []int{10, 100} {
			r := with(t, api.Config{Stripes: 1, Precision: 1, Cells: cells}, first)
			for _, kind := range []int{api.Counter, api.Histogram, api.Summary} {
				for _, help := range []string{"", "h", "H", "h "} {
					for _, l := range [][]string{nil, {"x", "1"}, {"x", "1", "y", "2"}, {"x", ""}} {
						d := of(kind, "a", help, l...)
						if kind != first.Kind || help != first.Help {
							registers(t, r, d, 0, api.ErrUnlike)
						}
					}
				}
			}
			wants(t, first, len(r.Totals(nil).Values), 1)
			registers(t, r, first, 0, api.OK)
		}
	}
	// Another name is another family, be it a beginning of it.
	r := with(t, example, counter("ab"), summary("a"), summary("b"), summary("abc"), summary("Ab"))
	registers(t, r, counter("a"), 0, api.ErrUnlike)
}

// Series whose names, labels and values run into one another are not the same.
func TestSeriesThatLookAlike(t *testing.T) {
	d := []api.Desc{
		counter("a"), counter("a", "b", "c"), counter("a", "b", "c", "d", "e"), counter("a", "b", `c",d="e`), counter("a", "b", `c\`), counter("a", "b", `c\\`),
		counter("a", "b", "c\n"), counter("a", "b", `c\n`), counter("a", "b", ""), counter("a", "b", "", "c", ""), counter("a", "bc", ""), counter("a", "c", "b"),
		counter("ab", "c", ""), counter("ab"), counter("A"), counter("a", "b", "C"), counter("a", "B", "c"), counter("a", "b", "c "), counter("a", "b", " c"),
		counter("a", "b", `"`), counter("a", "b", `\"`), counter("a", "b", "}"), counter("a", "b", `"}`), counter("a", "b", "\x00"), counter("a", "b", "c,d=e"),
	}
	r := with(t, api.Config{Stripes: 1, Precision: 1, Cells: 1000}, d...)
	x := taken(t, r, 0)
	for round := range 2 {
		for id := range d {
			registers(t, r, d[id], id, api.OK)
			r.Add(nil, x, id, int64(id+1))
		}
		s := r.Reset(nil)
		for id := range d {
			v, e := snap.Find(s, d[id].Name, d[id].Labels)
			if e != api.OK || v.Total.Lo != uint64(id+1) {
				t.Errorf("round %d, %+v: %+v, %v", round, d[id], v, e)
			}
		}
	}
}

// MaxInstruments, and one more: that is told ahead of a want of room, and behind what is unlike.
func TestMostInstruments(t *testing.T) {
	for _, spare := range []int{0, 1, 1000} {
		r := made(t, api.Config{Stripes: 3, Precision: 1, Cells: api.MaxInstruments*12 + spare})
		name := func(i int) string { return "c" + string(rune('a'+i%26)) + string(rune('a'+i/26)) }
		for i := range api.MaxInstruments {
			registers(t, r, counter(name(i)), i, api.OK)
		}
		for range 2 {
			registers(t, r, counter("one_more"), 0, api.ErrMany)
			registers(t, r, histogram("one_more"), 0, api.ErrMany)
			registers(t, r, counter(name(7), "a", "b"), 0, api.ErrMany)
			registers(t, r, summary(name(7)), 0, api.ErrUnlike)
			registers(t, r, summary(name(255), "a", "b"), 0, api.ErrUnlike)
			registers(t, r, desc(4, "c"), 0, api.ErrKind)
		}
		x := taken(t, r, 0)
		for i := range api.MaxInstruments {
			registers(t, r, counter(name(i)), i, api.OK)
			if e := r.Add(nil, x, i, int64(i)); e != api.OK {
				t.Fatalf("Add to %d: %v", i, e)
			}
		}
		for _, id := range []int{256, 257, -1, 512} {
			if e := r.Add(nil, x, id, 1); e != api.ErrAbsent {
				t.Errorf("Add to %d: %v", id, e)
			}
		}
		s := r.Reset(nil)
		if e, at := snap.Check(s); e != api.OK || len(s.Values) != 256 {
			t.Fatalf("%d values; %v at %d", len(s.Values), e, at)
		}
		for i := range api.MaxInstruments {
			if v, e := snap.Find(s, name(i), nil); e != api.OK || v.Total.Lo != uint64(i) {
				t.Errorf("%s: %+v, %v", name(i), v, e)
			}
		}
	}
}

// As many cells as there may be, and one instrument more; what was refused takes none, and leaves room for what is smaller.
func TestRoom(t *testing.T) {
	one := func(kind, i int) api.Desc {
		return desc(kind, []string{"c", "h", "s"}[kind-1], "i", fmt.Sprint(i))
	}
	r := rand.New(rand.NewSource(157))
	for range 300 {
		c := api.Config{Stripes: 1 + r.Intn(16), Precision: 1 + r.Intn(3), Cells: 1 + r.Intn(20000)}
		reg, b := made(t, c), newBook(c)
		refused := 0
		for i := range 60 {
			d := one(1+r.Intn(3), i)
			want, wantE := b.register(d)
			registers(t, reg, d, want, wantE)
			if wantE == api.ErrRoom {
				refused++
			}
		}
		wants(t, c, reg.Totals(nil), b.totals())
		if used := 2 * c.Stripes * b.width(); used > c.Cells || refused == 0 && c.Cells < 1000 && c.Stripes > 2 {
			t.Errorf("%+v: %d cells, %d refused", c, used, refused)
		}
	}
	for _, c := range []struct {
		config api.Config
		kind   int
		fit    int
	}{
		{api.Config{Stripes: 1, Precision: 1, Cells: 4}, api.Counter, 1},
		{api.Config{Stripes: 1, Precision: 1, Cells: 3}, api.Counter, 0},
		{api.Config{Stripes: 16, Precision: 1, Cells: 64*7 + 63}, api.Counter, 7},
		{api.Config{Stripes: 1, Precision: 1, Cells: 9}, api.Summary, 0},
		{api.Config{Stripes: 1, Precision: 1, Cells: 10}, api.Summary, 1},
		{api.Config{Stripes: 3, Precision: 1, Cells: 30 * 5}, api.Summary, 5},
		{api.Config{Stripes: 1, Precision: 1, Cells: 255}, api.Histogram, 0},
		{api.Config{Stripes: 1, Precision: 1, Cells: 256}, api.Histogram, 1},
		{api.Config{Stripes: 1, Precision: 1, Cells: 256*3 - 1}, api.Histogram, 2},
		{api.Config{Stripes: 1, Precision: 13, Cells: 1048576}, api.Histogram, 1},
		{api.Config{Stripes: 2, Precision: 13, Cells: 1048576}, api.Histogram, 0},
		{api.Config{Stripes: 1, Precision: 14, Cells: 1048576}, api.Histogram, 0},
		{api.Config{Stripes: 16, Precision: 1, Cells: 1048576}, api.Histogram, 256},
	} {
		reg := made(t, c.config)
		for i := range c.fit {
			registers(t, reg, one(c.kind, i), i, api.OK)
		}
		if c.fit < 256 {
			registers(t, reg, one(c.kind, c.fit), 0, api.ErrRoom)
			registers(t, reg, one(c.kind, c.fit), 0, api.ErrRoom)
		}
		if c.fit > 0 {
			registers(t, reg, one(c.kind, 0), 0, api.OK)
		}
		if c.config.Precision > 12 {
			registers(t, reg, one(api.Counter, 0), c.fit, api.OK)
		}
	}
}

// The least stripe that is free, whatever was taken and released.
func TestStripes(t *testing.T) {
	r := rand.New(rand.NewSource(158))
	for stripes := 1; stripes <= 16; stripes++ {
		reg := made(t, api.Config{Stripes: stripes, Precision: 1, Cells: 1})
		b, held := newBook(api.Config{Stripes: stripes}), []*recorder.Recorder{}
		for range 300 {
			if len(held) > 0 && r.Intn(2) == 0 {
				i := r.Intn(len(held))
				x := held[i]
				held = slices.Delete(held, i, i+1)
				if e := reg.Release(nil, x); e != api.OK || !x.Closed() {
					t.Fatalf("Release: %v", e)
				}
				b.taken[x.Stripe()] = false
				if e := reg.Release(nil, x); e != api.ErrState {
					t.Fatalf("Release once more: %v", e)
				}
				continue
			}
			if want, e := b.take(); e == api.OK {
				held = append(held, taken(t, reg, want))
			} else {
				full(t, reg)
			}
		}
	}
}

// A recorder that was released does not make its stripe free once more, when another one has it.
func TestReleaseOnceMore(t *testing.T) {
	r := with(t, api.Config{Stripes: 1, Precision: 1, Cells: 100}, counter("c"))
	x := taken(t, r, 0)
	r.Release(nil, x)
	y := taken(t, r, 0)
	if e := r.Release(nil, x); e != api.ErrState || y.Closed() {
		t.Errorf("Release: %v; the other one is closed: %t", e, y.Closed())
	}
	full(t, r)
	if a, b := r.Add(nil, x, 0, 5), r.Add(nil, y, 0, 7); a != api.ErrState || b != api.OK {
		t.Errorf("Add: %v, %v", a, b)
	}
	wants(t, "Reset", r.Reset(nil), counts(1, 1, []api.Desc{counter("c")}, 7))
}

// Which error of a record is told first: that there is no such instrument, which is not counted; then those that are.
func TestRecordsAreRefused(t *testing.T) {
	d := []api.Desc{counter("a"), histogram("b"), summary("c")}
	config := api.Config{Stripes: 2, Precision: 1, Cells: 600}
	seen := map[api.Errno]int{}
	for _, closed := range []bool{false, true} {
		for _, kind := range recordKinds {
			for _, id := range append([]int{0, 1, 2, 3}, noNumbers...) {
				for i := range 12 {
					c := api.Call{Kind: kind, Slot: id, N: 5, X: 5}
					if i > 0 {
						c.N, c.X = noWholes[i%len(noWholes)], noFloats[i%len(noFloats)]
					}
					b, r := newBook(config), with(t, config, d...)
					for _, one := range d {
						b.register(one)
					}
					x := taken(t, r, 0)
					if closed {
						r.Release(nil, x)
					}
					want := b.record(pen{there: true, closed: closed}, c)
					seen[want]++
					got := api.Done{}
					tally := alone(func(g *gate.Gate) { got = call(r, g, &x, c) })
					if got.E != want || (tally.steps == 0) != (want == api.ErrAbsent) || want != api.OK && tally.steps > 4 {
						t.Fatalf("%+v, closed: %t: %v, not %v; %+v", c, closed, got.E, want, tally)
					}
					wants(t, c, r.Reset(nil), b.reset())
					wants(t, c, r.Totals(nil), b.totals())
				}
			}
		}
	}
	if len(seen) != 5 {
		t.Errorf("%v alone", seen)
	}
}

// The steps, the polls and the point of each call that nobody is beside.
func TestTallies(t *testing.T) {
	d := []api.Desc{counter("a"), histogram("b"), summary("c"), counter("a", "x", "1")}
	r := with(t, api.Config{Stripes: 2, Precision: 1, Cells: 600}, d...)
	var x, y *recorder.Recorder
	none, lock := tally{}, tally{3, 0, 2}
	register := func(d api.Desc) api.Call { return api.Call{Kind: api.CallRegister, Desc: d} }
	release, reset := api.Call{Kind: api.CallRelease}, api.Call{Kind: api.CallReset}
	for i, c := range []struct {
		call api.Call
		by   **recorder.Recorder
		e    api.Errno
		want tally
	}{
		{register(d[3]), &x, api.OK, lock},
		{register(summary("d")), &x, api.OK, lock},
		{register(histogram("h")), &x, api.ErrRoom, lock},
		{register(summary("a")), &x, api.ErrUnlike, lock},
		{register(summary("a", "y", "1")), &x, api.ErrUnlike, lock},
		{register(counter("a", "x", "\xff")), &x, api.ErrUtf, none},
		{api.Call{Kind: api.CallRecorder}, &x, api.OK, lock},
		{api.Call{Kind: api.CallRecorder}, &y, api.OK, lock},
		{api.Call{Kind: api.CallRecorder}, &y, api.ErrFull, lock},
		{api.Call{Kind: api.CallAdd, Slot: 0, N: 5}, &x, api.OK, tally{4, 0, 2}},
		{api.Call{Kind: api.CallAdd, Slot: 0, N: greatest}, &x, api.OK, tally{4, 0, 2}},
		{api.Call{Kind: api.CallAdd, Slot: 0, N: greatest}, &x, api.OK, tally{5, 0, 2}},
		{api.Call{Kind: api.CallAdd, Slot: 3, N: greatest}, &x, api.OK, tally{4, 0, 2}},
		{api.Call{Kind: api.CallObserve, Slot: 1, N: 5}, &x, api.OK, tally{5, 0, 2}},
		{api.Call{Kind: api.CallSample, Slot: 2, X: 5}, &x, api.OK, tally{12, 0, 2}},
		{api.Call{Kind: api.CallSample, Slot: 2, X: 5}, &y, api.OK, tally{12, 0, 2}},
		{api.Call{Kind: api.CallSample, Slot: 2, X: 5}, &x, api.OK, tally{10, 0, 2}},
		{api.Call{Kind: api.CallSample, Slot: 4, X: 5}, &x, api.OK, tally{12, 0, 2}},
		{api.Call{Kind: api.CallSample, Slot: 5, X: 5}, &x, api.ErrAbsent, none},
		{api.Call{Kind: api.CallAdd, Slot: -1, N: -5}, &x, api.ErrAbsent, none},
		{api.Call{Kind: api.CallObserve, Slot: math.MaxInt, N: 5}, &x, api.ErrAbsent, none},
		{api.Call{Kind: api.CallSample, Slot: 0, X: 5}, &x, api.ErrKind, tally{4, 0, 2}},
		{api.Call{Kind: api.CallAdd, Slot: 0, N: -5}, &x, api.ErrRange, tally{4, 0, 2}},
		{reset, &x, api.OK, tally{9 + 2*(2+128+5+2+5), 0, 3}},
		{api.Call{Kind: api.CallTotals}, &x, api.OK, lock},
		{api.Call{Kind: api.CallAdd, Slot: 0, N: greatest}, &x, api.OK, tally{4, 0, 2}},
		{release, &x, api.OK, lock},
		{release, &x, api.ErrState, none},
		{api.Call{Kind: api.CallAdd, Slot: 0, N: 5}, &x, api.ErrState, tally{4, 0, 2}},
		{api.Call{Kind: api.CallAdd, Slot: 9, N: 5}, &x, api.ErrAbsent, none},
		{reset, &x, api.OK, tally{9 + 2*(2+128+5+2+5), 0, 3}},
	} {
		got := api.Done{}
		if n := alone(func(g *gate.Gate) { got = call(r, g, c.by, c.call) }); n != c.want || got.E != c.e {
			t.Errorf("number %d: %+v: %v, %+v, not %v, %+v", i, c.call, got.E, n, c.e, c.want)
		}
	}
	empty := made(t, example)
	if n := alone(func(g *gate.Gate) { empty.Reset(g) }); n != (tally{9, 0, 3}) {
		t.Errorf("Reset of no instruments: %+v", n)
	}
}

// A Reset has steps for all cells of one buffer, whatever lies in them.
func TestStepsOfResets(t *testing.T) {
	r := rand.New(rand.NewSource(159))
	for range 60 {
		c := api.Config{Stripes: 1 + r.Intn(16), Precision: 1 + r.Intn(3), Cells: 20000}
		reg, b := made(t, c), newBook(c)
		for range r.Intn(6) {
			d := some(r, descs)
			reg.Register(nil, d)
			b.register(d)
		}
		for range 2 {
			if n := alone(func(g *gate.Gate) { reg.Reset(g) }); n != (tally{9 + c.Stripes*b.width(), 0, 3}) {
				t.Errorf("%+v, %d instruments: %+v", c, len(b.pages), n)
			}
		}
	}
}

// Who waits for the lock polls till it is given: each poll is a step, and is noted; the point is the Load behind them, but a Reset's.
func TestPollsForTheLock(t *testing.T) {
	for _, kind := range []int{api.CallRegister, api.CallRecorder, api.CallRelease, api.CallReset, api.CallTotals} {
		for polls := range 6 {
			r := with(t, example, counter("c"))
			x := taken(t, r, 0)
			c := api.Call{Kind: kind, Desc: counter("d")}
			var got tally
			holder := func(g *gate.Gate) { r.Totals(g) }
			waiter := func(g *gate.Gate) {
				call(r, g, &x, c)
				got.steps, got.polls, got.point = g.Tally()
			}
			picks := append([]int{0, 0, 1}, slices.Repeat([]int{1}, polls)...)
			gate.Run([]func(g *gate.Gate){holder, waiter}, append(picks, 0), true)
			want := tally{3 + polls, polls, polls + 5}
			if kind == api.CallReset {
				want = tally{9 + 4 + polls, polls, polls + 6}
			}
			if got != want {
				t.Errorf("kind %d: %+v, not %+v", kind, got, want)
			}
		}
	}
}

// A Reset's polls are those for the lock and those for records that are under way.
func TestPollsOfAReset(t *testing.T) {
	for held := range 4 {
		for in := range 4 {
			r := with(t, example, counter("c"))
			x := taken(t, r, 0)
			var got tally
			var told api.Snapshot
			holder := func(g *gate.Gate) { r.Totals(g) }
			writer := func(g *gate.Gate) { r.Add(g, x, 0, 5) }
			reset := func(g *gate.Gate) {
				told = r.Reset(g)
				got.steps, got.polls, got.point = g.Tally()
			}
			picks := append([]int{1, 1, 0, 0, 2}, slices.Repeat([]int{2}, held)...)
			picks = append(picks, 0, 2, 2, 2, 2, 2)
			picks = append(picks, slices.Repeat([]int{2}, in)...)
			gate.Run([]func(g *gate.Gate){holder, writer, reset}, append(picks, 1, 1), true)
			wants(t, []int{held, in}, got, tally{13 + held + in, held + in, 8 + held})
			wants(t, []int{held, in}, told, counts(2, 0, []api.Desc{counter("c")}, 5))
		}
	}
}

// What a call that is let go has done by each of its steps: nothing ahead of its point, and all of it from there on; and it holds the lock, from its second step on.
func TestWhatACallHasDoneByEachStep(t *testing.T) {
	for k := range 4 {
		r := made(t, example)
		x := taken(t, r, 0)
		upTo(k, func(g *gate.Gate) { r.Register(g, counter("c")) })
		want := api.ErrAbsent
		if k >= 2 {
			want = api.OK
		}
		if e := r.Add(nil, x, 0, 5); e != want {
			t.Errorf("Register, %d steps: Add: %v", k, e)
		}
		if held := isHeld(r); held != (k == 1 || k == 2) {
			t.Errorf("Register, %d steps: the lock is held: %t", k, held)
		}
		r = with(t, example, counter("c"))
		x = taken(t, r, 0)
		upTo(k, func(g *gate.Gate) { r.Release(g, x) })
		if e := r.Add(nil, x, 0, 5); e != api.ErrState || !x.Closed() {
			t.Errorf("Release, %d steps: Add: %v", k, e)
		}
		if k == 0 {
			taken(t, r, 1)
			full(t, r)
		}
		if held := isHeld(r); held != (k == 1 || k == 2) {
			t.Errorf("Release, %d steps: the lock is held: %t", k, held)
		}
	}
	for k := range 14 {
		r := with(t, example, counter("c"))
		x := taken(t, r, 0)
		r.Add(nil, x, 0, 5)
		upTo(k, func(g *gate.Gate) { r.Reset(g) })
		if e := r.Add(nil, x, 0, 7); e != api.OK {
			t.Errorf("Reset, %d steps: Add: %v", k, e)
		}
		if k > 0 && k < 13 {
			if !isHeld(r) {
				t.Errorf("Reset, %d steps: the lock is not held", k)
			}
			continue
		}
		wants(t, k, r.Totals(nil).Values[0].Total.Lo, 5*(k/13))
		wants(t, k, r.Reset(nil).Values[0].Total.Lo, 12-5*(k/13))
	}
}

// A number may be used as soon as its Register was at its point, though that has not ended; a record that has begun ahead of that was told that there is none.
func TestNumbersAreAskedAtOnce(t *testing.T) {
	r := made(t, example)
	x := taken(t, r, 0)
	var got []api.Errno
	register := func(g *gate.Gate) { r.Register(g, counter("c")) }
	add := func(g *gate.Gate) {
		for range 3 {
			got = append(got, r.Add(g, x, 0, 5))
			g.Step()
		}
	}
	gate.Run([]func(g *gate.Gate){register, add}, []int{0, 1, 0, 1, 1, 1, 1, 1}, false)
	wants(t, "Add", got, []api.Errno{api.ErrAbsent, api.ErrAbsent, api.OK})
}

// What is of one registry is nothing to another.
func TestRegistriesAreApart(t *testing.T) {
	a, b := with(t, example, counter("c")), with(t, example, counter("d"), counter("c"))
	x, y := taken(t, a, 0), taken(t, b, 0)
	a.Add(nil, x, 0, 5)
	b.Add(nil, y, 1, 7)
	a.Add(nil, x, 0, -1)
	upTo(2, func(g *gate.Gate) { b.Totals(g) })
	if isHeld(a) || !isHeld(b) {
		t.Error("who holds the one's lock holds the other's")
	}
	wants(t, "Reset", a.Reset(nil), counts(2, 1, []api.Desc{counter("c")}, 5))
}

// P15.1 of whole scripts, and P15.2, are in script_test.go.

// Values stand in the order of their series, whichever order they were registered in; cells are emptied by numbers.
func TestOrderOfValues(t *testing.T) {
	d := []api.Desc{
		summary("A"), counter("a"), counter("a", "B", "1"), counter("a", "b", ""), counter("a", "b", "", "c", "1"), counter("a", "b", "1"), counter("a", "b", "10"), counter("a", "b", "2"),
		counter("a", "c", ""), histogram("a:"), histogram("a_"), summary("aa"), counter("b"),
	}
	r := rand.New(rand.NewSource(160))
	for range 100 {
		reg := made(t, api.Config{Stripes: 1, Precision: 1, Cells: 5000})
		x := taken(t, reg, 0)
		for id, i := range r.Perm(len(d)) {
			registers(t, reg, d[i], id, api.OK)
			call(reg, nil, &x, api.Call{Kind: recordKinds[d[i].Kind-1], Slot: id, N: int64(i), X: float64(i)})
		}
		for _, s := range []api.Snapshot{reg.Reset(nil), reg.Totals(nil)} {
			for i, v := range s.Values {
				if !same(v.Desc, d[i]) || v.Total.Lo+uint64(v.Sum) != uint64(i) {
					t.Fatalf("the value number %d: %+v", i, v)
				}
			}
			if e, at := snap.Check(s); e != api.OK || len(s.Values) != len(d) {
				t.Fatalf("%d values; %v at %d", len(s.Values), e, at)
			}
		}
	}
}

// An instrument that comes behind Resets has no totals, and takes nobody else's.
func TestInstrumentsBetweenResets(t *testing.T) {
	d := []api.Desc{counter("m"), counter("z"), counter("a")}
	r := made(t, example)
	x := taken(t, r, 0)
	for i := range d {
		registers(t, r, d[i], i, api.OK)
		for id := range i + 1 {
			r.Add(nil, x, id, 1)
		}
		if s := r.Reset(nil); len(s.Values) != i+1 {
			t.Errorf("%d values", len(s.Values))
		}
	}
	wants(t, "Totals", r.Totals(nil), counts(2, 0, []api.Desc{d[2], d[0], d[1]}, 1, 3, 2))
}

// P15.3: numbers are 0, 1, 2 ..; the same series is the same number, for ever.

func TestNumbers(t *testing.T) {
	r := rand.New(rand.NewSource(161))
	for range 100 {
		c := api.Config{Stripes: 1 + r.Intn(3), Precision: 1, Cells: some(r, []int{30, 300, 3000})}
		reg, b := made(t, c), newBook(c)
		x := taken(t, reg, 0)
		for range 200 {
			d := some(r, descs)
			want, e := b.register(d)
			registers(t, reg, d, want, e)
			switch r.Intn(10) {
			case 0:
				reg.Reset(nil)
			case 1:
				reg.Totals(nil)
			case 2:
				reg.Release(nil, x)
				x = taken(t, reg, 0)
			case 3:
				reg.Add(nil, x, r.Intn(9)-1, 5)
			}
		}
		for id, p := range b.pages {
			registers(t, reg, p.desc, id, api.OK)
		}
	}
}

// P15.4: R3: snapshots and descriptions are new memory.

// spoil writes over all of a list, its spare room too.
func spoil[T any](l []T, x T) {
	l = l[:cap(l)]
	for i := range l {
		l[i] = x
	}
}

// spoilAll writes over all lists of a snapshot.
func spoilAll(s api.Snapshot) {
	for _, v := range s.Values[:cap(s.Values)] {
		spoil(v.Desc.Labels, api.Label{Name: "spoiled", Value: "spoiled"})
		spoil(v.Counts, api.Count{Index: 77, N: 77})
	}
	spoil(s.Values, api.Value{N: 99})
}

// deep tells a snapshot with lists of its own, spare room too.
func deep(s api.Snapshot) api.Snapshot {
	s.Values = slices.Clone(s.Values[:cap(s.Values)])
	for i := range s.Values {
		v := &s.Values[i]
		v.Desc.Labels = slices.Clone(v.Desc.Labels[:cap(v.Desc.Labels)])
		v.Counts = slices.Clone(v.Counts[:cap(v.Counts)])
	}
	return s
}

// spareLabel stands in the spare room of labels that are handed in.
var spareLabel = api.Label{Name: "spare", Value: "spare"}

// roomy tells a description whose labels have spare room.
func roomy(d api.Desc) api.Desc {
	d.Labels = append(slices.Clone(d.Labels), spareLabel, spareLabel)[:len(d.Labels)]
	return d
}

func TestDescriptionsAreNotKept(t *testing.T) {
	d := []api.Desc{counter("c"), counter("c", "a", "x"), histogram("h", "a", "x", "b", "y"), summary("s", "q", "")}
	r := made(t, api.Config{Stripes: 1, Precision: 1, Cells: 1000})
	for round := range 3 {
		for id := range d {
			mine := roomy(d[id])
			was := slices.Clone(mine.Labels[:cap(mine.Labels)])
			registers(t, r, mine, id, api.OK)
			if !slices.Equal(mine.Labels[:cap(mine.Labels)], was) {
				t.Errorf("round %d: what was handed in is changed: %v", round, mine.Labels[:cap(mine.Labels)])
			}
			spoil(mine.Labels, api.Label{Name: "le", Value: "\xff"})
		}
		s := r.Reset(nil)
		for id := range d {
			if !same(s.Values[id].Desc, d[id]) {
				t.Errorf("round %d: %+v", round, s.Values[id].Desc)
			}
		}
	}
}

// Labels that their owner writes over while the lock is waited for are those that were handed in.
func TestDescriptionsWhileTheLockIsHeld(t *testing.T) {
	r := made(t, example)
	mine := counter("c", "a", "x")
	holder := func(g *gate.Gate) {
		r.Totals(g)
		spoil(mine.Labels, api.Label{Name: "le", Value: "\xff"})
	}
	id, e := 9, api.ErrArg
	waiter := func(g *gate.Gate) { id, e = r.Register(g, mine) }
	gate.Run([]func(g *gate.Gate){holder, waiter}, []int{0, 0, 1, 1, 0, 1, 1}, false)
	if id != 0 || e != api.OK {
		t.Errorf("Register: %d, %v", id, e)
	}
	registers(t, r, counter("c", "a", "x"), 0, api.OK)
	wants(t, "Totals", r.Totals(nil).Values[0].Desc, counter("c", "a", "x"))
}

func TestSnapshotsAreNewMemory(t *testing.T) {
	d := []api.Desc{histogram("h", "a", "x"), counter("c", "a", "x"), summary("s", "q", ""), histogram("h", "b", "y")}
	fresh := func() (*registry.Registry, *recorder.Recorder) {
		r := with(t, api.Config{Stripes: 2, Precision: 1, Cells: 2000}, d...)
		return r, taken(t, r, 0)
	}
	a, x := fresh()
	b, y := fresh()
	var kept, was []api.Snapshot
	for round := range 12 {
		for id := range d {
			c := api.Call{Kind: recordKinds[d[id].Kind-1], Slot: id, N: int64(round * id), X: float64(round)}
			call(a, nil, &x, c)
			call(b, nil, &y, c)
		}
		for _, two := range [][2]api.Snapshot{{a.Reset(nil), b.Reset(nil)}, {a.Totals(nil), b.Totals(nil)}, {a.Totals(nil), b.Totals(nil)}} {
			wants(t, round, two[0], two[1])
			spoilAll(two[1])
			if round%3 == 2 {
				spoilAll(two[0])
				continue
			}
			kept, was = append(kept, two[0]), append(was, deep(two[0]))
		}
		for i := range kept {
			wants(t, round, deep(kept[i]), was[i])
		}
	}
	for i := range d {
		registers(t, b, d[i], i, api.OK)
	}
}

// No two lists of one answer share memory.
func TestNoTwoListsAreShared(t *testing.T) {
	l := labels("a", "x", "b", "y")
	r := made(t, api.Config{Stripes: 1, Precision: 1, Cells: 5000})
	x := taken(t, r, 0)
	for id, name := range []string{"a", "b", "c", "d"} {
		registers(t, r, api.Desc{Kind: api.Histogram, Name: name, Labels: l}, id, api.OK)
		for v := range int64(5) {
			r.Observe(nil, x, id, v)
		}
	}
	for _, s := range []api.Snapshot{r.Reset(nil), r.Totals(nil)} {
		for i := range s.Values {
			was := deep(s)
			spoil(s.Values[i].Desc.Labels, api.Label{Name: fmt.Sprint(i)})
			spoil(s.Values[i].Counts, api.Count{Index: 77 + i, N: 77})
			for j, v := range deep(s).Values {
				if j != i && !same(v, was.Values[j]) {
					t.Errorf("the values %d and %d share a list", i, j)
				}
			}
		}
	}
}

// Without a gate

// join waits for goroutines, but not for ever: what is wrong may let them wait till the end of days.
func join(t *testing.T, wait *sync.WaitGroup) {
	t.Helper()
	ended := make(chan bool)
	go func() {
		wait.Wait()
		close(ended)
	}()
	select {
	case <-ended:
	case <-time.After(time.Minute):
		t.Fatal("a call does not end")
	}
}

// worker takes recorders again and again, and records by each for a while; it tells what was answered OK, and how many were refused. Floats are small whole numbers: so their sums hang on no order.
func worker(t *testing.T, r *registry.Registry, seed int64, in []atomic.Bool, times int) (kept []api.Call, refused uint64) {
	draw := rand.New(rand.NewSource(seed))
	for len(kept) < times {
		x, e := r.Recorder(nil)
		if e != api.OK {
			continue
		}
		if in[x.Stripe()].Swap(true) {
			t.Error("two have one stripe")
		}
		for range 1 + draw.Intn(20) {
			c := api.Call{Kind: some(draw, recordKinds), N: int64(draw.Intn(9) - 1)}
			c.X = float64(c.N)
			id, e := r.Register(nil, descs[draw.Intn(10)])
			if e != api.OK {
				t.Error(e)
			}
			c.Slot = id
			switch e := call(r, nil, &x, c).E; e {
			case api.OK:
				kept = append(kept, c)
			case api.ErrKind, api.ErrRange:
				refused++
			default:
				t.Error(e)
			}
		}
		in[x.Stripe()].Store(false)
		if e := r.Release(nil, x); e != api.OK {
			t.Error(e)
		}
		if e := r.Add(nil, x, 0, 1); e != api.ErrState {
			t.Error(e)
		}
		refused++
	}
	return kept, refused
}

// However many goroutines register, take recorders, record, release, reset and ask for the totals at one time: nothing is lost, and nothing stands twice.
func TestWithoutAGate(t *testing.T) {
	for _, c := range []struct{ workers, stripes, times, resets int }{{1, 1, 2000, 300}, {4, 4, 1500, 200}, {8, 3, 600, 100}, {8, 16, 1000, 200}} {
		config := api.Config{Stripes: c.stripes, Precision: 1, Cells: 50000}
		r := made(t, config)
		var wait sync.WaitGroup
		kept, refused := make([][]api.Call, c.workers), make([]uint64, c.workers)
		in := make([]atomic.Bool, c.stripes)
		for i := range c.workers {
			wait.Go(func() { kept[i], refused[i] = worker(t, r, int64(i), in, c.times) })
		}
		told := make([]api.Snapshot, 2)
		for i := range told {
			told[i].Precision = 1
			wait.Go(func() {
				for range c.resets {
					told[i] = merged(t, told[i], r.Reset(nil))
					if e, at := snap.Check(r.Totals(nil)); e != api.OK {
						t.Error(e, at)
					}
				}
			})
		}
		join(t, &wait)
		all := merged(t, merged(t, told[0], told[1]), r.Reset(nil))
		wants(t, c, all, r.Totals(nil))
		b, by := newBook(config), &pens{{there: true}}
		for _, v := range all.Values {
			b.register(v.Desc)
		}
		for i := range c.workers {
			b.refused += refused[i]
			for _, one := range kept[i] {
				// Which numbers there are hangs on who came first; what they are is told by Register.
				one.Slot = slices.IndexFunc(descs[:10], func(d api.Desc) bool {
					id, _ := r.Register(nil, d)
					return id == one.Slot
				})
				one.Slot, _ = b.register(descs[one.Slot])
				b.do(by, one)
			}
		}
		wants(t, c, all, b.reset())
	}
}

// Whoever registers at one time is told numbers without a gap, one a series.
func TestRegisterWithoutAGate(t *testing.T) {
	for range 20 {
		r := made(t, api.Config{Stripes: 1, Precision: 1, Cells: 1 << 20})
		const goroutines, series = 8, 60
		ids := make([][series]int, goroutines)
		var wait sync.WaitGroup
		for i := range goroutines {
			wait.Go(func() {
				for _, k := range rand.New(rand.NewSource(int64(i))).Perm(series) {
					id, e := r.Register(nil, counter("c", "k", fmt.Sprint(k)))
					if e != api.OK {
						t.Error(e)
					}
					ids[i][k] = id
				}
			})
		}
		join(t, &wait)
		sorted := slices.Sorted(slices.Values(ids[0][:]))
		for i := range series {
			if sorted[i] != i {
				t.Fatalf("numbers: %v", sorted)
			}
		}
		for i := range goroutines {
			if ids[i] != ids[0] {
				t.Errorf("numbers: %v and %v", ids[i], ids[0])
			}
		}
	}
}

// A Reset without a gate that waits for a record of a thread with one ends when that leaves.
func TestAResetWithoutAGateWaits(t *testing.T) {
	r := with(t, example, counter("c"))
	x := taken(t, r, 0)
	var all sync.WaitGroup
	entered, left := make(chan bool), make(chan bool)
	all.Go(func() {
		<-entered
		s := r.Reset(nil)
		select {
		case <-left:
		default:
			t.Error("the Reset has ended, though the record is under way")
		}
		wants(t, "Reset", s, counts(2, 0, []api.Desc{counter("c")}, 5))
	})
	add := func(g *gate.Gate) { r.Add(g, x, 0, 5) }
	other := func(g *gate.Gate) {
		g.Step()
		close(entered)
		time.Sleep(5 * time.Millisecond)
		g.Step()
		close(left)
	}
	gate.Run([]func(g *gate.Gate){add, other}, []int{0, 0, 1, 0, 1, 0}, false)
	join(t, &all)
}
