package telem_test

import (
	"bytes"
	"fmt"
	"math"
	"math/rand"
	"slices"
	"strings"
	"testing"

	"gnomon/api"
	"gnomon/expo"
	"gnomon/registry"
	"gnomon/scrape"
	"gnomon/snap"
	"gnomon/telem"
)

const (
	greatest = math.MaxInt64
	least    = math.MinInt64
)

var (
	minusZero = math.Copysign(0, -1)
	inf       = math.Inf(1)
	nan       = math.NaN()
)

// kinds are the kinds of instruments; noKinds are none.
var (
	kinds   = []int{api.Counter, api.Histogram, api.Summary}
	noKinds = []int{api.None, 4, 5, -1, -2, 257, 1<<32 + 1, 1<<32 + 2, math.MaxInt, math.MinInt, math.MinInt + 1}
)

// noWholes and noFloats may not be recorded; the wholes and floats, edges among them, may. No sum of these floats is rounded.
var (
	noWholes = []int64{-1, -2, -1 << 31, -1 << 32, least, least + 1}
	noFloats = []float64{nan, inf, -inf, 0x1p961, -0x1p961, math.Nextafter(0x1p960, inf), math.Nextafter(-0x1p960, -inf), math.MaxFloat64}
	wholes   = []int64{0, 1, 2, 3, 7, 8, 255, 256, 1<<31 - 1, 1 << 31, 1 << 32, 1<<53 + 1, 1 << 62, greatest - 1, greatest}
	floats   = []float64{0, minusZero, 1, -1, 2.5, 0.25, -0.5, 1e6, -1e6, 3}
)

// noNumbers are numbers that no instrument of a few has, and that are no handles where there are a few: they count from 0 and from 1 on.
var noNumbers = []int{-1, -2, 99, 255, 256, 257, 1 << 16, 1 << 32, 1<<32 + 1, math.MaxInt, math.MinInt, math.MinInt + 1}

// labels tells names and values by turns as labels.
func labels(l ...string) (out []api.Label) {
	for i := 0; i < len(l); i += 2 {
		out = append(out, api.Label{Name: l[i], Value: l[i+1]})
	}
	return out
}

func desc(kind int, name string, l ...string) api.Desc {
	return api.Desc{Kind: kind, Name: name, Labels: labels(l...)}
}

func counter(name string, l ...string) api.Desc { return desc(api.Counter, name, l...) }

func histogram(name string, l ...string) api.Desc { return desc(api.Histogram, name, l...) }

func summary(name string, l ...string) api.Desc { return desc(api.Summary, name, l...) }

// three are a counter, a histogram and a summary, whose numbers are 0, 1 and 2.
var three = []api.Desc{counter("c"), histogram("h"), summary("s")}

// example is the config of the document's examples.
var example = api.Config{Stripes: 2, Precision: 1, Cells: 10000}

// made makes a Telem of some instruments, whose numbers are their places.
func made(t *testing.T, c api.Config, l ...api.Desc) *telem.Telem {
	t.Helper()
	x, e := telem.New(c)
	if e != api.OK || x == nil {
		t.Fatalf("New(%+v): there: %t, %v", c, x != nil, e)
	}
	for want, d := range l {
		if id, e := x.Register(d); id != want || e != api.OK {
			t.Fatalf("Register(%+v): %d, %v", d, id, e)
		}
	}
	return x
}

// same tells whether two things are told alike: of floats that means bit by bit, and a list without elements is one, nil or not.
func same(a, b any) bool { return fmt.Sprintf("%+v", a) == fmt.Sprintf("%+v", b) }

// wants holds a thing against another one.
func wants(t *testing.T, what, got, want any) {
	t.Helper()
	if !same(got, want) {
		t.Fatalf("%+v:\n%+v, not\n%+v", what, got, want)
	}
}

// is holds the answer of a call against the one that it must be.
func is(t *testing.T, what string, got, want api.Errno) {
	t.Helper()
	if got != want {
		t.Fatalf("%s: %v, not %v", what, got, want)
	}
}

// handle asks for a recorder.
func handle(t *testing.T, x *telem.Telem, want int, wantE api.Errno) {
	t.Helper()
	if h, e := x.Recorder(); h != want || e != wantE {
		t.Fatalf("Recorder: %d, %v, not %d, %v", h, e, want, wantE)
	}
}

// record is an Add, Observe or Sample, by the kind.
func record(x *telem.Telem, h, kind, id int, n int64, f float64) api.Errno {
	switch kind {
	case api.Counter:
		return x.Add(h, id, n)
	case api.Histogram:
		return x.Observe(h, id, n)
	}
	return x.Sample(h, id, f)
}

// draws tells one of a list.
func draws[T any](r *rand.Rand, l []T) T { return l[r.Intn(len(l))] }

// whole and float draw a number; most of them may be recorded.
func whole(r *rand.Rand) int64 {
	if r.Intn(5) == 0 {
		return draws(r, noWholes)
	}
	return draws(r, wholes)
}

func float(r *rand.Rand) float64 {
	if r.Intn(5) == 0 {
		return draws(r, noFloats)
	}
	return draws(r, floats)
}

// P18.1: all calls answer as said, in every order.

func TestExampleOfHandles(t *testing.T) {
	x := made(t, example, counter("c"), histogram("h"))
	handle(t, x, 1, api.OK)
	handle(t, x, 2, api.OK)
	handle(t, x, 0, api.ErrFull)
	is(t, "Add(1, 0, 5)", x.Add(1, 0, 5), api.OK)
	is(t, "Add(2, 0, 7)", x.Add(2, 0, 7), api.OK)
	is(t, "Add(3, 0, 1)", x.Add(3, 0, 1), api.ErrAbsent)
	told := func(n uint64) api.Snapshot {
		return api.Snapshot{Precision: 1, Values: []api.Value{{Desc: counter("c"), Total: api.Int{Lo: n}}, {Desc: histogram("h")}}}
	}
	wants(t, "Totals", x.Totals(), told(0))
	wants(t, "Reset", x.Reset(), told(12))
	wants(t, "Totals", x.Totals(), told(12))
}

func TestExampleOfRelease(t *testing.T) {
	x := made(t, example, counter("c"), histogram("h"))
	handle(t, x, 1, api.OK)
	handle(t, x, 2, api.OK)
	is(t, "Release(1)", x.Release(1), api.OK)
	is(t, "Add(1, 0, 1)", x.Add(1, 0, 1), api.ErrState)
	is(t, "Release(1)", x.Release(1), api.ErrState)
	is(t, "Release(9)", x.Release(9), api.ErrAbsent)
	handle(t, x, 3, api.OK)
	wants(t, "the stripe", x.Stripe(3), 0)
	wants(t, "Reset", x.Reset(), api.Snapshot{Precision: 1, Values: []api.Value{{Desc: counter("c")}, {Desc: histogram("h")}}, Refused: 1})
}

// New tells what the registry's does.
func TestConfigs(t *testing.T) {
	seen := map[api.Errno]int{}
	stripes := []int{1, 2, 15, 16, 0, 17, -1, 1<<32 + 1, math.MaxInt, math.MinInt}
	precisions := []int{1, 2, 13, 14, 0, 15, -1, 1<<32 + 1, math.MaxInt, math.MinInt}
	cells := []int{1, 2, 1 << 10, api.MaxCells, 0, api.MaxCells + 1, -1, 1<<32 + 1, math.MaxInt, math.MinInt}
	for _, s := range stripes {
		for _, p := range precisions {
			for _, n := range cells {
				c := api.Config{Stripes: s, Precision: p, Cells: n}
				_, want := registry.New(c)
				seen[want]++
				x, e := telem.New(c)
				if e != want || (x != nil) != (want == api.OK) {
					t.Errorf("New(%+v): there: %t, %v, not %v", c, x != nil, e, want)
				}
				if x != nil && !same(x.Totals(), api.Snapshot{Precision: p}) {
					t.Errorf("New(%+v): %+v", c, x.Totals())
				}
			}
		}
	}
	if seen[api.OK] != 64 || seen[api.ErrArg] != 1000-64 {
		t.Error(seen)
	}
}

// Register tells what the registry's does.
func TestRegister(t *testing.T) {
	helped := counter("c", "x", "1")
	helped.Help = "all"
	long := api.Desc{Kind: api.Counter, Name: "c", Help: strings.Repeat("h", api.MaxText+1)}
	many := counter("c")
	for i := range api.MaxLabels + 1 {
		many.Labels = append(many.Labels, api.Label{Name: fmt.Sprintf("l%02d", i)})
	}
	x := made(t, api.Config{Stripes: 1, Precision: 1, Cells: 300})
	for i, c := range []struct {
		d    api.Desc
		want int
		e    api.Errno
	}{
		{counter("c"), 0, api.OK},
		{counter("c"), 0, api.OK},
		{histogram("c"), 0, api.ErrUnlike},
		{helped, 0, api.ErrUnlike},
		{counter("c", "x", "1"), 1, api.OK},
		{counter("c", "x", "2"), 2, api.OK},
		{counter("c", "x", "1"), 1, api.OK},
		{api.Desc{Name: "c"}, 0, api.ErrKind},
		{desc(4, "c"), 0, api.ErrKind},
		{counter(""), 0, api.ErrName},
		{counter("c_sum"), 0, api.ErrName},
		{counter("c", "le", ""), 0, api.ErrName},
		{long, 0, api.ErrBytes},
		{counter("c", "x", strings.Repeat("v", api.MaxText+1)), 0, api.ErrBytes},
		{api.Desc{Kind: api.Counter, Name: "c", Help: "\xff"}, 0, api.ErrUtf},
		{counter("c", "x", "\xff"), 0, api.ErrUtf},
		{many, 0, api.ErrMany},
		{counter("c", "x", "1", "x", "1"), 0, api.ErrTwice},
		{counter("c", "y", "1", "x", "1"), 0, api.ErrOrder},
		{histogram("h"), 3, api.OK},
		{histogram("i"), 0, api.ErrRoom},
		{histogram("h"), 3, api.OK},
		{summary("s"), 4, api.OK},
		{counter("a"), 5, api.OK},
	} {
		if id, e := x.Register(c.d); id != c.want || e != c.e {
			t.Errorf("number %d: Register(%+v): %d, %v, not %d, %v", i, c.d, id, e, c.want, c.e)
		}
	}
	var got []string
	for _, v := range x.Totals().Values {
		got = append(got, v.Desc.Name+fmt.Sprint(v.Desc.Labels))
	}
	wants(t, "Totals", got, []string{"a[]", "c[]", "c[{x 1}]", "c[{x 2}]", "h[]", "s[]"})
}

func TestMostInstruments(t *testing.T) {
	x := made(t, api.Config{Stripes: 1, Precision: 1, Cells: api.MaxCells})
	handle(t, x, 1, api.OK)
	for i := range api.MaxInstruments {
		d := counter("c", "k", fmt.Sprintf("%03d", i))
		is(t, "Add of no instrument", x.Add(1, i, 5), api.ErrAbsent)
		if id, e := x.Register(d); id != i || e != api.OK {
			t.Fatalf("Register(%+v): %d, %v", d, id, e)
		}
		is(t, "Add", x.Add(1, i, int64(i)), api.OK)
	}
	if id, e := x.Register(counter("d")); id != 0 || e != api.ErrMany {
		t.Fatalf("Register: %d, %v", id, e)
	}
	is(t, "Add of no instrument", x.Add(1, api.MaxInstruments, 5), api.ErrAbsent)
	s := x.Reset()
	for i, v := range s.Values {
		wants(t, i, v.Total.Lo, i)
	}
	wants(t, "how many", []uint64{uint64(len(s.Values)), s.Refused}, []uint64{api.MaxInstruments, 0})
}

// All stripes are told, the least one first; then none is, till one comes back; a handle is never told again.
func TestStripes(t *testing.T) {
	for n := 1; n <= api.MaxStripes; n++ {
		x := made(t, api.Config{Stripes: n, Precision: 1, Cells: 10000}, three...)
		for h := 1; h <= n; h++ {
			handle(t, x, h, api.OK)
			wants(t, "the stripe", x.Stripe(h), h-1)
		}
		last := n
		for h := n; h >= 1; h-- {
			handle(t, x, 0, api.ErrFull)
			handle(t, x, 0, api.ErrFull)
			is(t, "Release", x.Release(h), api.OK)
			is(t, "Release", x.Release(h), api.ErrState)
			last++
			handle(t, x, last, api.OK)
			wants(t, "the stripe", x.Stripe(last), h-1)
		}
		for h := 1; h <= last; h++ {
			want := api.OK
			if h <= n {
				want = api.ErrState
			}
			is(t, "Add", x.Add(h, 0, 1), want)
			is(t, "Release", x.Release(h), want)
		}
		for h := 1; h <= n; h++ {
			handle(t, x, last+h, api.OK)
		}
		s := x.Reset()
		wants(t, n, []uint64{s.Values[0].Total.Lo, s.Refused}, []uint64{uint64(n), uint64(n)})
	}
}

// Every order of some calls on up to three handles, those that were never told among them.
func TestEveryOrder(t *testing.T) {
	type step struct{ what, h int }
	const (
		take = iota
		release
		add
		burst
	)
	steps := []step{{take, 0}, {release, 1}, {release, 2}, {release, 3}, {add, 1}, {add, 2}, {add, 3}, {burst, 0}}
	const length = 5
	work := []telem.Work{{Kind: api.Counter, N: []int64{10}}, {Kind: api.Counter, N: []int64{100, -1}}}
	orders := 1
	for range length {
		orders *= len(steps)
	}
	for order := range orders {
		config := api.Config{Stripes: 1 + order%2, Precision: 1, Cells: 100}
		x, b := made(t, config, counter("c")), newBook(config)
		b.register(counter("c"))
		var did []step
		for rest, i := order, 0; i < length; rest, i = rest/len(steps), i+1 {
			s := steps[rest%len(steps)]
			did = append(did, s)
			switch s.what {
			case take:
				h, e := x.Recorder()
				wantH, wantE := b.recorder()
				if h != wantH || e != wantE {
					t.Fatalf("%v: %d, %v, not %d, %v", did, h, e, wantH, wantE)
				}
			case release:
				is(t, fmt.Sprint(did), x.Release(s.h), b.release(s.h))
			case add:
				is(t, fmt.Sprint(did), x.Add(s.h, 0, 1), b.record(s.h, api.Counter, 0, 1, 0))
			case burst:
				wants(t, did, x.Burst(work), b.burst(work))
			}
		}
		wants(t, did, x.Reset(), b.reset())
	}
}

// Which error of a record is told first: that the handle or the instrument is none, which is not counted; then those that are.
func TestRecordsAreRefused(t *testing.T) {
	seen := map[api.Errno]int{}
	x, b := made(t, example, three...), newBook(example)
	for _, d := range three {
		b.register(d)
	}
	// The handle 1 was released, 2 stands, 3 was never told.
	for range 2 {
		x.Recorder()
		b.recorder()
	}
	is(t, "Release", x.Release(1), b.release(1))
	for _, h := range append([]int{0, 1, 2, 3}, noNumbers...) {
		for _, kind := range kinds {
			for _, id := range append([]int{0, 1, 2, 3}, noNumbers...) {
				for i := range 10 {
					n, f := int64(5), 5.0
					if i > 0 {
						n, f = noWholes[i%len(noWholes)], noFloats[i%len(noFloats)]
					}
					want := b.record(h, kind, id, n, f)
					seen[want]++
					is(t, fmt.Sprint(h, kind, id, n, f), record(x, h, kind, id, n, f), want)
				}
			}
		}
		wants(t, h, x.Totals(), b.total())
		wants(t, h, x.Reset(), b.reset())
	}
	if len(seen) != 5 {
		t.Errorf("%v alone", seen)
	}
}

// A handle that is none has nothing counted, recorded or released, whoever else has a recorder.
func TestNoHandles(t *testing.T) {
	x := made(t, example, three...)
	for told := range 3 {
		if told > 0 {
			handle(t, x, told, api.OK)
		}
		for _, h := range append([]int{0, told + 1, told + 2}, noNumbers...) {
			is(t, "Add", x.Add(h, 0, 5), api.ErrAbsent)
			is(t, "Observe", x.Observe(h, 1, 5), api.ErrAbsent)
			is(t, "Sample", x.Sample(h, 2, 5), api.ErrAbsent)
			is(t, "Add", x.Add(h, 1, -5), api.ErrAbsent)
			is(t, "Observe", x.Observe(h, 9, 5), api.ErrAbsent)
			is(t, "Sample", x.Sample(h, 2, nan), api.ErrAbsent)
			is(t, "Release", x.Release(h), api.ErrAbsent)
		}
	}
	handle(t, x, 0, api.ErrFull)
	empty := api.Snapshot{Precision: 1, Values: []api.Value{{Desc: three[0]}, {Desc: three[1]}, {Desc: three[2]}}}
	wants(t, "Reset", x.Reset(), empty)
	wants(t, "Totals", x.Totals(), empty)
}

// Handles of one Telem are none of another one.
func TestTelemsAreApart(t *testing.T) {
	x, y := made(t, example, three...), made(t, example, three...)
	handle(t, x, 1, api.OK)
	is(t, "Add", y.Add(1, 0, 5), api.ErrAbsent)
	handle(t, y, 1, api.OK)
	is(t, "Release", y.Release(1), api.OK)
	is(t, "Add", x.Add(1, 0, 5), api.OK)
	is(t, "Add", y.Add(1, 0, 5), api.ErrState)
	a, b := x.Reset(), y.Reset()
	wants(t, "both", []uint64{a.Values[0].Total.Lo, a.Refused, b.Values[0].Total.Lo, b.Refused}, []uint64{5, 0, 0, 1})
}

// descs are instruments that are drawn; some don't go with others.
var descs = []api.Desc{
	counter("c"), counter("c", "a", "x"), counter("c", "a", "x\n\"\\"), histogram("h"), histogram("h", "k", "1"), summary("s"), summary("s", "q", "é"),
	counter("b"), summary("c"), histogram("s", "q", "1"), {Kind: api.Counter, Name: "b", Help: "other"}, counter("b_sum"), desc(0, "b"), counter("b", "y", "", "x", ""),
}

// drawWork draws a Work.
func drawWork(r *rand.Rand) telem.Work {
	w := telem.Work{ID: r.Intn(9), Kind: draws(r, kinds)}
	if r.Intn(12) == 0 {
		w.Kind = draws(r, noKinds)
	}
	if r.Intn(12) == 0 {
		w.ID = draws(r, noNumbers)
	}
	for range r.Intn(6) {
		w.N = append(w.N, whole(r))
	}
	for range r.Intn(6) {
		w.X = append(w.X, float(r))
	}
	return w
}

// step does one call that is drawn, and holds it against the book.
func step(t *testing.T, r *rand.Rand, x *telem.Telem, b *book) {
	t.Helper()
	h := r.Intn(len(b.hands) + 2)
	if r.Intn(10) == 0 {
		h = draws(r, noNumbers)
	}
	switch r.Intn(12) {
	case 0:
		d := draws(r, descs)
		id, e := x.Register(d)
		wantID, wantE := b.register(d)
		wants(t, d, []any{id, e}, []any{wantID, wantE})
	case 1, 2:
		got, e := x.Recorder()
		want, wantE := b.recorder()
		wants(t, "Recorder", []any{got, e}, []any{want, wantE})
		if e == api.OK {
			wants(t, "the stripe", x.Stripe(got), b.hands[got-1].stripe)
		}
	case 3:
		is(t, "Release", x.Release(h), b.release(h))
	case 4:
		wants(t, "Reset", x.Reset(), b.reset())
	case 5:
		wants(t, "Totals", x.Totals(), b.total())
	case 6:
		thereAndBack(t, x, b.total())
	case 7, 8:
		var l []telem.Work
		for range r.Intn(5) {
			l = append(l, drawWork(r))
		}
		wants(t, l, x.Burst(l), b.burst(l))
	default:
		kind, id, n, f := draws(r, kinds), r.Intn(9), whole(r), float(r)
		if r.Intn(2) == 0 && id < len(b.descs) {
			kind = b.descs[id].Kind
		}
		is(t, fmt.Sprint(h, kind, id, n, f), record(x, h, kind, id, n, f), b.record(h, kind, id, n, f))
	}
}

// Calls of all kinds, in an order that is drawn, against the book.
func TestCallsInManyOrders(t *testing.T) {
	for seed := range int64(600) {
		r := rand.New(rand.NewSource(seed))
		config := api.Config{Stripes: 1 + r.Intn(4), Precision: 1 + r.Intn(3), Cells: 200 + r.Intn(6000)}
		x, b := made(t, config), newBook(config)
		for range 150 {
			step(t, r, x, b)
		}
		wants(t, seed, x.Reset(), b.reset())
		thereAndBack(t, x, b.total())
	}
}

// P18.3: what Text tells Load reads as the Totals.

// thereAndBack holds Text and Load against what the totals must be.
func thereAndBack(t *testing.T, x *telem.Telem, want api.Snapshot) {
	t.Helper()
	wantText, wantE := expo.Write(want)
	text, e := x.Text()
	if e != wantE || !bytes.Equal(text, wantText) {
		t.Fatalf("Text: %v\n%s\nnot %v\n%s", e, text, wantE, wantText)
	}
	s, e, line := x.Load(text)
	if e != api.OK || line != 0 || !snap.Same(s, x.Totals()) {
		t.Fatalf("Load: %v, %d\n%+v\nof\n%s", e, line, s, text)
	}
	wants(t, "Load", s, want)
}

func TestTextOfTheTotals(t *testing.T) {
	x := made(t, example, three...)
	x.Burst([]telem.Work{{ID: 0, Kind: api.Counter, N: []int64{5, -1}}, {ID: 1, Kind: api.Histogram, N: []int64{4, 5, 1 << 62}}})
	x.Burst([]telem.Work{{ID: 2, Kind: api.Summary, X: []float64{0.1, 0.2}}})
	empty := "# gnomon 1\n# refused 0\n# HELP c \n# TYPE c counter\nc 0\n# HELP h \n# TYPE h histogram\nh_bucket{le=\"+Inf\"} 0\nh_sum 0\nh_count 0\n" +
		"# HELP s \n# TYPE s summary\ns_sum 0\ns_count 0\n"
	if text, e := x.Text(); string(text) != empty || e != api.OK {
		t.Errorf("ahead of the Reset: %v\n%s", e, text)
	}
	x.Reset()
	full := "# gnomon 1\n# refused 1\n# HELP c \n# TYPE c counter\nc 5\n# HELP h \n# TYPE h histogram\nh_bucket{le=\"5\"} 2\nh_bucket{le=\"6917529027641081855\"} 3\n" +
		"h_bucket{le=\"+Inf\"} 3\nh_sum 4611686018427387913\nh_count 3\n# HELP s \n# TYPE s summary\ns{quantile=\"0\"} 0.1\ns{quantile=\"1\"} 0.2\ns_sum 0.30000000000000004\ns_count 2\n"
	for range 3 {
		if text, e := x.Text(); string(text) != full || e != api.OK {
			t.Errorf("behind it: %v\n%s", e, text)
		}
		thereAndBack(t, x, x.Totals())
		x.Reset()
	}
	if text, e := made(t, example).Text(); string(text) != "# gnomon 1\n# refused 0\n" || e != api.OK {
		t.Errorf("of nothing: %v\n%s", e, text)
	}
}

// Floats whose sums are rounded, and numbers whose sums are beyond 64 bits.
func TestThereAndBack(t *testing.T) {
	for seed := range int64(200) {
		r := rand.New(rand.NewSource(seed))
		x := made(t, api.Config{Stripes: 1 + r.Intn(16), Precision: 1 + r.Intn(4), Cells: 100000}, descs[:8]...)
		for range r.Intn(5) {
			var l []telem.Work
			for range r.Intn(8) {
				w := drawWork(r)
				for range r.Intn(20) {
					w.N = append(w.N, r.Int63()>>r.Intn(63))
					w.X = append(w.X, math.Ldexp(r.Float64()-0.5, r.Intn(1921)-960))
				}
				l = append(l, w)
			}
			x.Burst(l)
			x.Reset()
			thereAndBack(t, x, x.Totals())
		}
	}
}

// A text of more than MaxPage bytes is refused, for as long as the totals are what they are; all else goes on.
func TestTextThatIsTooLong(t *testing.T) {
	long := strings.Repeat("\"", api.MaxText)
	x := made(t, api.Config{Stripes: 1, Precision: 1, Cells: api.MaxCells})
	handle(t, x, 1, api.OK)
	seen := map[api.Errno]int{}
	for i := range 140 {
		d := counter("c", "a", fmt.Sprintf("%03d", i))
		for k := 1; k < api.MaxLabels; k++ {
			d.Labels = append(d.Labels, api.Label{Name: fmt.Sprintf("b%02d", k), Value: long})
		}
		if id, e := x.Register(d); id != i || e != api.OK {
			t.Fatalf("Register: %d, %v", id, e)
		}
		is(t, "Add", x.Add(1, i, int64(i)), api.OK)
		x.Reset()
		if i < 130 {
			continue
		}
		want, wantE := expo.Write(x.Totals())
		text, e := x.Text()
		if e != wantE || !bytes.Equal(text, want) || e != api.OK && text != nil {
			t.Fatalf("%d instruments: %v, %d bytes, not %v, %d bytes", i+1, e, len(text), wantE, len(want))
		}
		seen[e]++
	}
	if len(seen) != 2 || seen[api.OK] == 0 || seen[api.ErrBytes] == 0 {
		t.Error(seen)
	}
	wants(t, "Totals", x.Totals().Values[139].Total.Lo, 139)
}

// Load tells what scrape.Parse does, whatever the Telem has, and changes nothing.
func TestLoad(t *testing.T) {
	other := made(t, api.Config{Stripes: 3, Precision: 4, Cells: 100000}, histogram("a"), summary("c"), counter("z", "k", "1"))
	other.Burst([]telem.Work{{ID: 0, Kind: api.Histogram, N: []int64{9, 99, 999}}, {ID: 1, Kind: api.Summary, X: []float64{0.5, 1e21}}, {ID: 2, Kind: api.Counter, N: []int64{7, -7}}})
	other.Reset()
	right, _ := other.Text()
	x := made(t, example, three...)
	handle(t, x, 1, api.OK)
	x.Add(1, 0, 5)
	x.Reset()
	x.Add(1, 0, 7)
	x.Add(1, 0, -7)
	totals := x.Totals()
	texts := [][]byte{right, nil, []byte(""), []byte("# gnomon 1\n# refused 0\n"), []byte("# gnomon 15\n# refused 0\n"), make([]byte, api.MaxPage), make([]byte, api.MaxPage+1)}
	for i := range right {
		texts = append(texts, right[:i], right[i:], append(slices.Clone(right[:i]), right[i+1:]...))
	}
	seen := map[api.Errno]int{}
	for i, text := range texts {
		want, wantE, wantLine := scrape.Parse(text)
		for _, by := range []*telem.Telem{x, other} {
			s, e, line := by.Load(text)
			if e != wantE || line != wantLine || !snap.Same(s, want) {
				t.Fatalf("text %d: %v, %d, not %v, %d\n%+v, not\n%+v", i, e, line, wantE, wantLine, s, want)
			}
		}
		seen[wantE]++
		wants(t, i, x.Totals(), totals)
	}
	if seen[api.OK] < 2 || seen[api.ErrForm] < 100 || seen[api.ErrBytes] != 1 {
		t.Error(seen)
	}
	handle(t, x, 2, api.OK)
	s := x.Reset()
	wants(t, "Reset", []uint64{s.Values[0].Total.Lo, s.Refused, uint64(len(s.Values))}, []uint64{7, 1, 3})
}
