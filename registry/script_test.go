package registry_test

import (
	"cmp"
	"fmt"
	"math"
	"math/bits"
	"math/rand"
	"slices"
	"testing"

	"gnomon/api"
	"gnomon/bucket"
	"gnomon/gate"
	"gnomon/label"
	"gnomon/pair"
	"gnomon/recorder"
	"gnomon/registry"
	"gnomon/slab"
	"gnomon/snap"
)

// row is a plain account: what was recorded in a stripe of an instrument since the Reset ahead.
type row struct {
	n []int64
	x []float64
}

// total tells what the whole numbers came to.
func (w *row) total() (sum api.Int) {
	for _, n := range w.n {
		lo, carry := bits.Add64(sum.Lo, uint64(n), 0)
		sum.Hi, sum.Lo = sum.Hi+int64(carry), lo
	}
	return sum
}

// ahead tells whether a stands ahead of b in the order of floats.
func ahead(a, b float64) bool {
	return a < b || a == b && math.Signbit(a) && !math.Signbit(b)
}

// counts tells how many of the whole numbers fell into which buckets.
func (w *row) counts(p int) (out []api.Count) {
	n := map[int]uint64{}
	for _, v := range w.n {
		i, _ := bucket.Index(p, v)
		n[i]++
	}
	for i, n := range n {
		out = append(out, api.Count{Index: i, N: n})
	}
	slices.SortFunc(out, func(a, b api.Count) int { return cmp.Compare(a.Index, b.Index) })
	return out
}

// part tells what came of it.
func (w *row) part(kind, p int) (out slab.Part) {
	if kind != api.Summary {
		out.Total = w.total()
	}
	if kind == api.Histogram {
		out.Counts, out.N = w.counts(p), uint64(len(w.n))
	}
	if kind == api.Summary && len(w.x) > 0 {
		out.N, out.Pair, out.Min, out.Max = uint64(len(w.x)), pair.Of(w.x), w.x[0], w.x[0]
		for _, x := range w.x {
			if ahead(x, out.Min) {
				out.Min = x
			}
			if ahead(out.Max, x) {
				out.Max = x
			}
		}
	}
	return out
}

// steps tells how many steps of the instrument a record does.
func (w *row) steps(c api.Call) int {
	if c.Kind == api.CallSample {
		n := 7
		if !slices.ContainsFunc(w.x, func(x float64) bool { return !ahead(c.X, x) }) {
			n++
		}
		if !slices.ContainsFunc(w.x, func(x float64) bool { return !ahead(x, c.X) }) {
			n++
		}
		return n
	}
	then := row{n: append(slices.Clone(w.n), c.N)}
	// A histogram's bucket is one more than what a counter has.
	return kindOf(c) + int(then.total().Hi-w.total().Hi)
}

// kindOf tells which instruments a record is of.
func kindOf(c api.Call) int {
	switch c.Kind {
	case api.CallAdd:
		return api.Counter
	case api.CallObserve:
		return api.Histogram
	}
	return api.Summary
}

// mayBe tells whether a record's value may be recorded.
func mayBe(c api.Call) bool {
	if c.Kind == api.CallSample {
		return c.X >= -0x1p960 && c.X <= 0x1p960
	}
	return c.N >= 0
}

// width tells how many cells an instrument has, of a buffer and a stripe.
func width(kind, p int) int {
	switch kind {
	case api.Counter:
		return 2
	case api.Histogram:
		return 2 + bucket.Length(p)
	}
	return 5
}

// page is an instrument of a book.
type page struct {
	desc  api.Desc
	rows  []*row // stripe by stripe
	total slab.Part
}

func newRows(stripes int) (out []*row) {
	for range stripes {
		out = append(out, &row{})
	}
	return out
}

// pen is a recorder of a book.
type pen struct {
	there, closed bool
	stripe        int
}

// slots is how many recorders a thread may have.
const slots = 3

// pens are a thread's.
type pens [slots]pen

// book is a plain registry: it does one call behind the other.
type book struct {
	api.Config
	pages         []*page
	taken         []bool
	refused, ever uint64 // since the Reset ahead, and up to that
}

func newBook(c api.Config) *book { return &book{Config: c, taken: make([]bool, c.Stripes)} }

// width tells how many cells a buffer has of a stripe.
func (b *book) width() (n int) {
	for _, p := range b.pages {
		n += width(p.desc.Kind, b.Precision)
	}
	return n
}

func (b *book) register(d api.Desc) (int, api.Errno) {
	if e := label.Check(d); e != api.OK {
		return 0, e
	}
	for id, p := range b.pages {
		if p.desc.Name != d.Name {
			continue
		}
		if p.desc.Kind != d.Kind || p.desc.Help != d.Help {
			return 0, api.ErrUnlike
		}
		if slices.Equal(p.desc.Labels, d.Labels) {
			return id, api.OK
		}
	}
	if len(b.pages) == 256 {
		return 0, api.ErrMany
	}
	if 2*b.Stripes*(b.width()+width(d.Kind, b.Precision)) > b.Cells {
		return 0, api.ErrRoom
	}
	d.Labels = slices.Clone(d.Labels)
	b.pages = append(b.pages, &page{desc: d, rows: newRows(b.Stripes)})
	return len(b.pages) - 1, api.OK
}

func (b *book) take() (int, api.Errno) {
	stripe := slices.Index(b.taken, false)
	if stripe < 0 {
		return 0, api.ErrFull
	}
	b.taken[stripe] = true
	return stripe, api.OK
}

// refusal tells which error a record of an instrument that is there is refused with; OK, if it isn't.
func (b *book) refusal(by pen, c api.Call) api.Errno {
	switch {
	case by.closed:
		return api.ErrState
	case kindOf(c) != b.pages[c.Slot].desc.Kind:
		return api.ErrKind
	case !mayBe(c):
		return api.ErrRange
	}
	return api.OK
}

func (b *book) record(by pen, c api.Call) api.Errno {
	if c.Slot < 0 || c.Slot >= len(b.pages) {
		return api.ErrAbsent
	}
	e := b.refusal(by, c)
	if e != api.OK {
		b.refused++
		return e
	}
	w := b.pages[c.Slot].rows[by.stripe]
	if c.Kind == api.CallSample {
		w.x = append(w.x, c.X)
	} else {
		w.n = append(w.n, c.N)
	}
	return api.OK
}

// told tells a snapshot, of parts by the instruments' numbers.
func (b *book) told(parts []slab.Part, refused uint64) api.Snapshot {
	s := api.Snapshot{Precision: b.Precision, Refused: refused}
	for id, p := range b.pages {
		s.Values = append(s.Values, slab.Value(p.desc, parts[id]))
	}
	slices.SortFunc(s.Values, func(a, b api.Value) int { return label.Compare(a.Desc, b.Desc) })
	return s
}

func (b *book) reset() api.Snapshot {
	var parts []slab.Part
	for _, p := range b.pages {
		part := slab.Part{}
		for _, w := range p.rows {
			part = slab.Merge(part, w.part(p.desc.Kind, b.Precision))
		}
		parts = append(parts, part)
		p.total = slab.Merge(p.total, part)
		p.rows = newRows(b.Stripes)
	}
	s := b.told(parts, b.refused)
	b.ever, b.refused = b.ever+b.refused, 0
	return s
}

func (b *book) totals() api.Snapshot {
	var parts []slab.Part
	for _, p := range b.pages {
		parts = append(parts, p.total)
	}
	return b.told(parts, b.ever)
}

// do does a call by a thread's pens, and tells what it answers: E, N and Snapshot alone. An instrument is named by its number itself (Slot).
func (b *book) do(of *pens, c api.Call) (out api.Done) {
	by := &of[c.Rec]
	switch c.Kind {
	case api.CallRegister:
		out.N, out.E = b.register(c.Desc)
	case api.CallRecorder:
		if out.N, out.E = b.take(); out.E == api.OK {
			*by = pen{there: true, stripe: out.N}
		}
	case api.CallRelease:
		switch {
		case !by.there:
			out.E = api.ErrAbsent
		case by.closed:
			out.E = api.ErrState
		default:
			by.closed, b.taken[by.stripe] = true, false
		}
	case api.CallReset:
		out.Snapshot = b.reset()
	case api.CallTotals:
		out.Snapshot = b.totals()
	default:
		if !by.there {
			return api.Done{E: api.ErrAbsent}
		}
		out.E = b.record(*by, c)
	}
	return out
}

// script is what threads call, over a registry that has some instruments.
type script struct {
	config  api.Config
	given   []api.Desc
	threads [][]api.Call
}

// story is what became of a script, and, if it was drained, what a Reset and the Totals told behind it.
type story struct {
	api.History
	behind []api.Snapshot
}

// world is a script's registry.
type world struct {
	script
	registry *registry.Registry
	story    story
}

// play lets a script go.
func (s script) play(t *testing.T, picks []int, drain bool) story {
	t.Helper()
	w := &world{script: s, registry: made(t, s.config)}
	for _, d := range s.given {
		w.registry.Register(nil, d)
	}
	w.story.Threads = make([][]api.Done, len(s.threads))
	var bodies []func(g *gate.Gate)
	for th := range s.threads {
		bodies = append(bodies, func(g *gate.Gate) { w.live(g, th) })
	}
	w.story.Picks = gate.Run(bodies, picks, drain)
	if drain {
		w.story.behind = []api.Snapshot{w.registry.Reset(nil), w.registry.Totals(nil)}
	}
	return w.story
}

// live is a thread's life. What it was about when it was let go is told, too.
func (w *world) live(g *gate.Gate, th int) {
	var recorders [slots]*recorder.Recorder
	for _, c := range w.threads[th] {
		func() {
			var told api.Done
			from := g.Picks()
			g.Begin()
			defer func() {
				told.From, told.To = from, g.Picks()
				told.Steps, told.Polls, told.Point = g.Tally()
				w.story.Threads[th] = append(w.story.Threads[th], told)
			}()
			told = call(w.registry, g, &recorders[c.Rec], c)
			told.Ended = true
		}()
	}
}

// call does a call by a recorder, and tells what it answers: E, N and Snapshot alone.
func call(r *registry.Registry, g *gate.Gate, x **recorder.Recorder, c api.Call) (out api.Done) {
	switch c.Kind {
	case api.CallRegister:
		out.N, out.E = r.Register(g, c.Desc)
		return out
	case api.CallRecorder:
		y, e := r.Recorder(g)
		if e != api.OK {
			return api.Done{E: e}
		}
		*x = y
		return api.Done{N: y.Stripe()}
	case api.CallReset:
		return api.Done{Snapshot: r.Reset(g)}
	case api.CallTotals:
		return api.Done{Snapshot: r.Totals(g)}
	}
	if *x == nil {
		return api.Done{E: api.ErrAbsent}
	}
	switch c.Kind {
	case api.CallRelease:
		out.E = r.Release(g, *x)
	case api.CallAdd:
		out.E = r.Add(g, *x, c.Slot, c.N)
	case api.CallObserve:
		out.E = r.Observe(g, *x, c.Slot, c.N)
	case api.CallSample:
		out.E = r.Sample(g, *x, c.Slot, c.X)
	}
	return out
}

// step does a step of a model's thread, and tells the next one of the same call; nil, if it has ended.
type step func() step

// after tells a step behind so many that are of no account here.
func after(n int, then step) step {
	if n == 0 {
		return then
	}
	return func() step { return after(n-1, then) }
}

// hand is a model's thread.
type hand struct {
	left  []api.Call
	next  step // which it stands in
	now   api.Done
	told  api.Done // what the call answers, when it ends
	log   []api.Done
	holds pens
}

// model is a script as the document says it, step by step, without threads. What a call answers is what the book says at its point.
type model struct {
	*book
	hands         []*hand
	next, serving int64
	start         int64
	left          [2]int64 // even and odd
	picks         int
}

func newModel(s script) *model {
	m := &model{book: newBook(s.config), left: [2]int64{0, math.MinInt64}}
	for _, d := range s.given {
		m.register(d)
	}
	for _, calls := range s.threads {
		h := &hand{left: calls}
		m.hands = append(m.hands, h)
		m.begin(h)
	}
	return m
}

// begin lets a thread go on, till it stands in a step or has ended.
func (m *model) begin(h *hand) {
	for h.next == nil && len(h.left) > 0 {
		c := h.left[0]
		h.left = h.left[1:]
		h.now = api.Done{From: m.picks}
		if h.next = m.first(h, c); h.next == nil {
			m.answer(h, c)
			m.end(h)
		}
	}
}

// answer lets the book do a call.
func (m *model) answer(h *hand, c api.Call) { h.told = m.do(&h.holds, c) }

func (m *model) end(h *hand) {
	h.now.E, h.now.N, h.now.Snapshot = h.told.E, h.told.N, h.told.Snapshot
	h.now.Ended, h.now.To = true, m.picks
	h.log = append(h.log, h.now)
}

// pick does a thread's next step.
func (m *model) pick(h *hand) {
	m.picks++
	if h.next == nil {
		return
	}
	h.now.Steps++
	if h.next = h.next(); h.next == nil {
		m.end(h)
		m.begin(h)
	}
}

// first tells a call's first step; nil, if it has none.
func (m *model) first(h *hand, c api.Call) step {
	by := h.holds[c.Rec]
	switch c.Kind {
	case api.CallRegister:
		if label.Check(c.Desc) != api.OK {
			return nil
		}
	case api.CallRelease:
		if !by.there || by.closed {
			return nil
		}
	case api.CallReset:
		return m.take(h, func() step { return m.turn(h, c) })
	case api.CallAdd, api.CallObserve, api.CallSample:
		if !by.there || c.Slot < 0 || c.Slot >= len(m.pages) {
			return nil
		}
		return m.enter(h, c)
	}
	return m.take(h, func() step {
		m.answer(h, c)
		return m.give
	})
}

func (m *model) take(h *hand, then step) step {
	return func() step {
		ticket := m.next
		m.next++
		var look step
		look = func() step {
			if m.serving != ticket {
				h.now.Polls++
				return look
			}
			h.now.Point = m.picks
			return then()
		}
		return look
	}
}

func (m *model) give() step {
	m.serving++
	return nil
}

// phase tells the place of a phase's word.
func phase(start int64) int {
	if start < 0 {
		return 1
	}
	return 0
}

func (m *model) enter(h *hand, c api.Call) step {
	return func() step {
		in := phase(m.start)
		m.start++
		leave := func() step {
			m.left[in]++
			return nil
		}
		return func() step {
			h.now.Point = m.picks
			by, n := h.holds[c.Rec], 1
			if m.refusal(by, c) == api.OK {
				n = m.pages[c.Slot].rows[by.stripe].steps(c)
			}
			m.answer(h, c)
			return after(n, leave)
		}
	}
}

// turn is a Reset's, that has taken the lock.
func (m *model) turn(h *hand, c api.Call) step {
	from := [2]int64{0, math.MinInt64}
	old, mark := 0, int64(0)
	var look step
	look = func() step {
		if m.left[old] != mark {
			h.now.Polls++
			return look
		}
		return after(m.Stripes*m.width()+1, m.give)
	}
	swap := func() step {
		mark, m.start = m.start, from[1-old]
		return look
	}
	store := func() step {
		m.left[1-old] = from[1-old]
		return swap
	}
	load := func() step {
		old = phase(m.start)
		return store
	}
	return func() step {
		h.now.Point = m.picks
		m.answer(h, c)
		return load
	}
}

// want tells what must become of a script.
func (s script) want(picks []int, drain bool) story {
	m := newModel(s)
	for _, p := range picks {
		m.pick(m.hands[p])
	}
	for on := true; drain && on; {
		on = false
		for _, h := range m.hands {
			if h.next != nil {
				m.pick(h)
				on = true
			}
		}
	}
	out := story{History: api.History{Picks: m.picks}}
	for _, h := range m.hands {
		if h.next != nil {
			h.now.To = m.picks
			h.log = append(h.log, h.now)
		}
		out.Threads = append(out.Threads, h.log)
	}
	if drain {
		out.behind = []api.Snapshot{m.reset(), m.totals()}
	}
	return out
}

// check holds a script's play against the model.
func check(t *testing.T, s script, picks []int, drain bool) story {
	t.Helper()
	got := s.play(t, picks, drain)
	if want := s.want(picks, drain); !same(got, want) {
		t.Fatalf("%+v, picks %v, drain: %t:\n%+v, not\n%+v", s, picks, drain, got, want)
	}
	return got
}

// place names a call by its thread and its number there.
type place struct{ th, k int }

// places tells the calls that have a point, by these.
func (o story) places() (out []place) {
	for th, l := range o.Threads {
		for k, d := range l {
			if d.Point > 0 {
				out = append(out, place{th, k})
			}
		}
	}
	slices.SortFunc(out, func(a, b place) int { return cmp.Compare(o.at(a).Point, o.at(b).Point) })
	return out
}

func (o story) at(p place) api.Done { return o.Threads[p.th][p.k] }

// linear holds what the calls answered against a book that does them one by one in the order of the points that the gate tells, and by nothing else.
func (s script) linear(t *testing.T, o story) {
	t.Helper()
	b, of := newBook(s.config), make([]pens, len(s.threads))
	for _, d := range s.given {
		b.register(d)
	}
	for _, p := range o.places() {
		c, got := s.threads[p.th][p.k], o.at(p)
		want := b.do(&of[p.th], c)
		if got.Point <= got.From || got.Point > got.To {
			t.Fatalf("%+v: %+v: its point doesn't lie in it", c, got)
		}
		answered := api.Done{E: got.E, N: got.N, Snapshot: got.Snapshot}
		if got.Ended && !same(answered, want) {
			t.Fatalf("%+v:\n%+v answered %+v, not %+v", s, c, answered, want)
		}
	}
	for _, l := range o.Threads {
		for _, d := range l {
			if d.Point == 0 && d.Ended && d.Steps != 0 {
				t.Fatalf("%+v has steps, and no point", d)
			}
		}
	}
	if o.behind != nil {
		wants(t, s, o.behind, []api.Snapshot{b.reset(), b.totals()})
	}
}

// some tells one of a list.
func some[T any](r *rand.Rand, l []T) T { return l[r.Intn(len(l))] }

// descs are those of scripts: families of several series among them, some that are unlike these, and some that may not be.
var descs = []api.Desc{
	counter("c"), counter("c", "a", "x"), counter("c", "a", "x", "b", "y"), counter("c", "a", `x",b="y`), counter("b"),
	histogram("h"), histogram("h", "a", ""), summary("s"), summary("s", "z", "1"), summary("a"),
	histogram("c"), counter("h"), summary("h", "z", "1"),
	{Kind: api.Counter, Name: "c", Help: "other"}, {Kind: api.Counter, Name: "c", Help: "other", Labels: labels("z", "1")},
	{Kind: 4, Name: "c"}, counter("c_sum"), counter("c", "b", "1", "a", "1"),
}

// someRecord tells one of any kind, that may be more often than not.
func someRecord(r *rand.Rand) api.Call {
	c := api.Call{Kind: some(r, recordKinds), N: some(r, wholes), X: some(r, floats)}
	switch r.Intn(8) {
	case 0:
		c.N, c.X = some(r, noWholes), some(r, noFloats)
	case 1, 2:
		c.N, c.X = r.Int63(), r.NormFloat64()*math.Ldexp(1, r.Intn(200)-100)
	}
	return c
}

// someCall tells one: a record of an instrument that was given more often than not, and of its kind.
func (s script) someCall(r *rand.Rand) api.Call {
	c := someRecord(r)
	if len(s.given) > 0 {
		c.Slot = r.Intn(len(s.given))
		if r.Intn(8) > 0 {
			c.Kind = recordKinds[s.given[c.Slot].Kind-1]
		}
	}
	if r.Intn(12) == 0 {
		c.Slot = some(r, []int{-1, 4, 5, 6, 7, 256, math.MaxInt, math.MinInt})
	}
	switch r.Intn(24) {
	case 0, 1:
		c = api.Call{Kind: api.CallRecorder}
	case 2, 3:
		c = api.Call{Kind: api.CallRelease}
	case 4, 5:
		c = api.Call{Kind: api.CallReset}
	case 6:
		c = api.Call{Kind: api.CallTotals}
	case 7, 8, 9:
		c = api.Call{Kind: api.CallRegister, Desc: some(r, descs)}
	}
	if r.Intn(6) == 0 {
		c.Rec = r.Intn(slots)
	}
	return c
}

// someScript tells one. Its instruments are few, as a Reset has steps for all cells.
func someScript(r *rand.Rand, threads int) script {
	s := script{config: api.Config{Stripes: 1 + r.Intn(4), Precision: 1 + r.Intn(2), Cells: some(r, []int{30, 100, 300, 1100, 3000})}}
	if r.Intn(8) == 0 {
		s.config.Stripes = 5 + r.Intn(12)
	}
	b := newBook(s.config)
	for range r.Intn(5) {
		b.register(some(r, descs[:10]))
	}
	for _, p := range b.pages {
		s.given = append(s.given, p.desc)
	}
	for range threads {
		var l []api.Call
		if r.Intn(8) > 0 {
			l = append(l, api.Call{Kind: api.CallRecorder})
		}
		for range r.Intn(12) {
			l = append(l, s.someCall(r))
		}
		s.threads = append(s.threads, l)
	}
	return s
}

// somePicks draws a schedule: one of any picks, or one in which threads go on for a while, or in which some come seldom.
func somePicks(r *rand.Rand, threads int) (out []int) {
	often := 1 + r.Intn(threads)
	long := 1 + r.Intn(8)
	for range r.Intn(300) {
		th := r.Intn(threads)
		if r.Intn(10) > 0 {
			th = r.Intn(often)
		}
		out = append(out, slices.Repeat([]int{th}, 1+r.Intn(long))...)
	}
	return out
}

// tried counts what became of calls, so that a test can tell whether enough was tried.
type tried struct {
	by    map[string]int // by kind and error
	polls map[int]int    // by kind
	cut   int
}

func newTried() *tried { return &tried{by: map[string]int{}, polls: map[int]int{}} }

func (n *tried) add(s script, o story) {
	for th, l := range o.Threads {
		for k, d := range l {
			c := s.threads[th][k]
			if !d.Ended {
				n.cut++
				continue
			}
			n.by[fmt.Sprint(c.Kind, int(d.E))]++
			n.polls[c.Kind] += d.Polls
		}
	}
}

// least tells how many there were of the rarest of some kinds and errors, and which that is.
func (n *tried) least(of [][2]int) (int, [2]int) {
	rare := slices.MinFunc(of, func(a, b [2]int) int {
		return cmp.Compare(n.by[fmt.Sprint(a[0], a[1])], n.by[fmt.Sprint(b[0], b[1])])
	})
	return n.by[fmt.Sprint(rare[0], rare[1])], rare
}

// outcomes are the answers that scripts come to, by kind and error.
func outcomes() (out [][2]int) {
	for _, e := range []api.Errno{api.OK, api.ErrKind, api.ErrName, api.ErrOrder, api.ErrUnlike, api.ErrRoom} {
		out = append(out, [2]int{api.CallRegister, int(e)})
	}
	out = append(out, [2]int{api.CallRecorder, int(api.OK)}, [2]int{api.CallRecorder, int(api.ErrFull)})
	out = append(out, [2]int{api.CallRelease, int(api.OK)}, [2]int{api.CallRelease, int(api.ErrState)})
	for _, kind := range recordKinds {
		for _, e := range []api.Errno{api.OK, api.ErrAbsent, api.ErrState, api.ErrKind, api.ErrRange} {
			out = append(out, [2]int{kind, int(e)})
		}
	}
	return append(out, [2]int{api.CallReset, int(api.OK)}, [2]int{api.CallTotals, int(api.OK)})
}

// P15.1

// One thread does all of it by itself: by a gate, step by step, and without one.
func TestScriptsOneByOne(t *testing.T) {
	r := rand.New(rand.NewSource(151))
	n := newTried()
	for range 400 {
		s := someScript(r, 1)
		for range r.Intn(60) {
			s.threads[0] = append(s.threads[0], s.someCall(r))
		}
		o := check(t, s, nil, true)
		n.add(s, o)
		s.linear(t, o)
		plain, x := made(t, s.config), [slots]*recorder.Recorder{}
		for _, d := range s.given {
			plain.Register(nil, d)
		}
		for k, c := range s.threads[0] {
			d := o.Threads[0][k]
			wants(t, c, call(plain, nil, &x[c.Rec], c), api.Done{E: d.E, N: d.N, Snapshot: d.Snapshot})
		}
	}
	if least, of := n.least(outcomes()); least < 5 {
		t.Errorf("too little was tried: %v: %d", of, least)
	}
	for kind, polls := range n.polls {
		if polls != 0 {
			t.Errorf("calls of the kind %d have polled", kind)
		}
	}
}

// Many threads, whoever's step comes next: each call's answer, its steps, its polls, its point, from when it began to when it ended.
func TestScriptsGoAsTheModel(t *testing.T) {
	r := rand.New(rand.NewSource(152))
	n := newTried()
	for range 1500 {
		s := someScript(r, 1+r.Intn(api.MaxThreads))
		o := check(t, s, somePicks(r, len(s.threads)), r.Intn(2) == 0)
		n.add(s, o)
		s.linear(t, o)
	}
	if least, of := n.least(outcomes()); least < 20 || n.cut < 1000 {
		t.Errorf("too little was tried: %v: %d; %d cut off", of, least, n.cut)
	}
	for _, kind := range []int{api.CallRegister, api.CallRecorder, api.CallRelease, api.CallReset, api.CallTotals} {
		if n.polls[kind] < 300 {
			t.Errorf("of the kind %d there were %d polls alone", kind, n.polls[kind])
		}
	}
	for _, kind := range recordKinds {
		if n.polls[kind] != 0 {
			t.Errorf("records of the kind %d have polled", kind)
		}
	}
}

// Threads beside one that rests within its call, whichever step it stands ahead of: those that need no lock go on.
func TestBesideOneThatRests(t *testing.T) {
	r := rand.New(rand.NewSource(153))
	for range 300 {
		s := someScript(r, 3)
		s.config.Stripes = max(s.config.Stripes, 3)
		for _, rest := range []int{1, 2, 3, 4, 5, 6, 7, 8, 11, 20} {
			picks := append(slices.Repeat([]int{0}, rest), somePicks(r, 2)...)
			for i := range picks[rest:] {
				picks[rest+i]++
			}
			s.linear(t, check(t, s, picks, r.Intn(2) == 0))
		}
	}
}

// allPicks tells every list of so many picks of so many threads.
func allPicks(threads, picks int, tell func(picks []int)) {
	list := make([]int, picks)
	var from func(i int)
	from = func(i int) {
		if i == picks {
			tell(list)
			return
		}
		for t := range threads {
			list[i] = t
			from(i + 1)
		}
	}
	from(0)
}

// Every history of a few calls.
func TestEveryHistory(t *testing.T) {
	register := func(d api.Desc) api.Call { return api.Call{Kind: api.CallRegister, Desc: d} }
	take, release := api.Call{Kind: api.CallRecorder}, api.Call{Kind: api.CallRelease}
	reset, totals := api.Call{Kind: api.CallReset}, api.Call{Kind: api.CallTotals}
	add := func(id int) api.Call { return api.Call{Kind: api.CallAdd, Slot: id, N: 5} }
	of := func(given int, threads ...[]api.Call) script {
		return script{config: api.Config{Stripes: 1, Precision: 1, Cells: 10}, given: descs[:given], threads: threads}
	}
	for _, c := range []struct {
		script
		picks int
	}{
		{of(0, []api.Call{register(descs[0])}, []api.Call{register(descs[0])}), 8},
		{of(0, []api.Call{register(descs[0])}, []api.Call{register(descs[1])}), 8},
		{of(0, []api.Call{register(descs[0])}, []api.Call{register(descs[10])}), 8},
		{of(1, []api.Call{register(descs[1])}, []api.Call{register(descs[4])}), 8},
		{of(1, []api.Call{register(descs[1])}, []api.Call{take, add(1), add(1)}), 11},
		{of(0, []api.Call{register(descs[0])}, []api.Call{reset, totals}), 11},
		{of(0, []api.Call{take}, []api.Call{take}, []api.Call{take}), 7},
		{of(0, []api.Call{take, release}, []api.Call{take, release}), 11},
		{of(1, []api.Call{reset}, []api.Call{reset}), 11},
		{of(1, []api.Call{take, add(0), release}, []api.Call{reset}), 12},
		{of(1, []api.Call{take, release, add(0)}, []api.Call{reset, totals}), 12},
	} {
		for _, drain := range []bool{false, true} {
			allPicks(len(c.threads), c.picks, func(picks []int) { c.linear(t, check(t, c.script, picks, drain)) })
		}
	}
}

// The same script has the same story.
func TestScriptsAreAlikeEachTime(t *testing.T) {
	r := rand.New(rand.NewSource(154))
	for range 40 {
		s, drain := someScript(r, 1+r.Intn(api.MaxThreads)), r.Intn(2) == 0
		picks := somePicks(r, len(s.threads))
		first := s.play(t, picks, drain)
		for range 3 {
			wants(t, s, s.play(t, picks, drain), first)
		}
	}
}

// P15.2: what a Reset tells by the beginnings and the ends of the calls, and W2: what all of them tell together.

// bitScript tells one in which each Add adds a bit of its own, so that a sum tells which are in it, while other threads, or the same, reset.
func bitScript(r *rand.Rand) script {
	s := script{config: api.Config{Stripes: 8, Precision: 1, Cells: 1000}, given: []api.Desc{counter("c")}}
	bit := 0
	for range 1 + r.Intn(api.MaxThreads) {
		l := []api.Call{{Kind: api.CallRecorder}}
		for range r.Intn(10) {
			switch {
			case bit < 62 && r.Intn(3) > 0:
				l = append(l, api.Call{Kind: api.CallAdd, N: 1 << bit})
				bit++
			case r.Intn(8) == 0:
				l = append(l, api.Call{Kind: api.CallRelease}, api.Call{Kind: api.CallRecorder})
			default:
				l = append(l, api.Call{Kind: api.CallReset})
			}
		}
		s.threads = append(s.threads, l)
	}
	return s
}

// tells tells whether a Reset of a bitScript tells a record.
func tells(s api.Snapshot, bit int64) bool { return s.Values[0].Total.Lo&uint64(bit) != 0 }

func TestWhichRecordsAResetTells(t *testing.T) {
	r := rand.New(rand.NewSource(155))
	resets, between := 0, 0
	for range 1500 {
		s := bitScript(r)
		o := s.play(t, somePicks(r, len(s.threads)), true)
		var told []api.Done
		for _, p := range o.places() {
			if s.threads[p.th][p.k].Kind == api.CallReset {
				told = append(told, o.at(p))
			}
		}
		resets += len(told)
		told = append(told, api.Done{Snapshot: o.behind[0], From: o.Picks, To: o.Picks})
		for _, p := range o.places() {
			c, d := s.threads[p.th][p.k], o.at(p)
			if c.Kind != api.CallAdd || d.E != api.OK {
				continue
			}
			in := slices.IndexFunc(told, func(x api.Done) bool { return tells(x.Snapshot, c.N) })
			if in < 0 || slices.ContainsFunc(told[in+1:], func(x api.Done) bool { return tells(x.Snapshot, c.N) }) {
				t.Fatalf("%+v: a record is told by no Reset, or by two: %+v", s, c)
			}
			if in > 0 && d.To <= told[in-1].From || d.From >= told[in].To && in < len(told)-1 {
				t.Fatalf("%+v: the record %+v from %d to %d is told by %+v", s, c, d.From, d.To, told[in])
			}
			if d.From < told[in].From && told[in].From < d.To {
				between++
			}
		}
	}
	if resets < 3000 || between < 1000 {
		t.Errorf("too little was tried: %d Resets, %d records that one began within", resets, between)
	}
}

// plainly tells a snapshot without what hangs on the order of roundings.
func plainly(s api.Snapshot) api.Snapshot {
	s.Values = slices.Clone(s.Values)
	for i := range s.Values {
		s.Values[i].Sum = 0
	}
	return s
}

func TestNothingIsLost(t *testing.T) {
	r := rand.New(rand.NewSource(156))
	resets := 0
	for range 700 {
		s := someScript(r, 1+r.Intn(api.MaxThreads))
		// Sums of floats that are too great for a snapshot to be merged are none of the registry's.
		for _, l := range s.threads {
			for k := range l {
				if math.Abs(l[k].X) > 0x1p900 {
					l[k].X = 3
				}
			}
		}
		o := s.play(t, somePicks(r, len(s.threads)), true)
		plain, by := newBook(s.config), &pens{{there: true}}
		for _, d := range s.given {
			plain.register(d)
		}
		all := api.Snapshot{Precision: s.config.Precision}
		for _, p := range o.places() {
			c, d := s.threads[p.th][p.k], o.at(p)
			c.Rec = 0
			switch {
			case c.Kind == api.CallReset:
				all = merged(t, all, d.Snapshot)
				resets++
			case c.Kind == api.CallRegister || slices.Contains(recordKinds, c.Kind) && d.E == api.OK:
				plain.do(by, c)
			case slices.Contains(recordKinds, c.Kind):
				plain.refused++
			}
		}
		all = merged(t, all, o.behind[0])
		wants(t, s, plainly(all), plainly(o.behind[1]))
		wants(t, s, plainly(plain.reset()), plainly(all))
	}
	if resets < 500 {
		t.Errorf("%d Resets alone", resets)
	}
}

// merged tells two snapshots as one, which must be ones that may be.
func merged(t *testing.T, a, b api.Snapshot) api.Snapshot {
	t.Helper()
	if e, at := snap.Check(b); e != api.OK {
		t.Fatalf("%+v: %v at %d", b, e, at)
	}
	all, e := snap.Merge(a, b)
	if e != api.OK {
		t.Fatalf("%+v and %+v: %v", a, b, e)
	}
	return all
}
