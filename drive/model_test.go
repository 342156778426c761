package drive_test

import (
	"cmp"
	"math"
	"math/bits"
	"slices"

	"gnomon/api"
	"gnomon/bucket"
	"gnomon/label"
	"gnomon/pair"
	"gnomon/slab"
)

// row is a plain account: what was recorded in a stripe of an instrument since the Reset ahead.
type row struct {
	n []int64
	x []float64
}

// total tells what the whole numbers came to.
func (w *row) total() (sum api.Int) {
	for _, n := range w.n {
		lo, carry := bits.Add64(sum.Lo, uint64(n), 0)
		sum.Hi, sum.Lo = sum.Hi+int64(carry), lo
	}
	return sum
}

// ahead tells whether a stands ahead of b in the order of floats.
func ahead(a, b float64) bool {
	return a < b || a == b && math.Signbit(a) && !math.Signbit(b)
}

// counts tells how many of the whole numbers fell into which buckets.
func (w *row) counts(p int) (out []api.Count) {
	n := map[int]uint64{}
	for _, v := range w.n {
		i, _ := bucket.Index(p, v)
		n[i]++
	}
	for i, n := range n {
		out = append(out, api.Count{Index: i, N: n})
	}
	slices.SortFunc(out, func(a, b api.Count) int { return cmp.Compare(a.Index, b.Index) })
	return out
}

// part tells what came of it.
func (w *row) part(kind, p int) (out slab.Part) {
	if kind != api.Summary {
		out.Total = w.total()
	}
	if kind == api.Histogram {
		out.Counts, out.N = w.counts(p), uint64(len(w.n))
	}
	if kind == api.Summary && len(w.x) > 0 {
		out.N, out.Pair, out.Min, out.Max = uint64(len(w.x)), pair.Of(w.x), w.x[0], w.x[0]
		for _, x := range w.x {
			if ahead(x, out.Min) {
				out.Min = x
			}
			if ahead(out.Max, x) {
				out.Max = x
			}
		}
	}
	return out
}

// steps tells how many steps of the instrument a record does.
func (w *row) steps(c api.Call) int {
	if c.Kind == api.CallSample {
		n := 7
		if !slices.ContainsFunc(w.x, func(x float64) bool { return !ahead(c.X, x) }) {
			n++
		}
		if !slices.ContainsFunc(w.x, func(x float64) bool { return !ahead(x, c.X) }) {
			n++
		}
		return n
	}
	then := row{n: append(slices.Clone(w.n), c.N)}
	// A histogram's bucket is one more than what a counter has.
	return kindOf(c) + int(then.total().Hi-w.total().Hi)
}

// kindOf tells which instruments a record is of.
func kindOf(c api.Call) int {
	switch c.Kind {
	case api.CallAdd:
		return api.Counter
	case api.CallObserve:
		return api.Histogram
	}
	return api.Summary
}

// mayBe tells whether a record's value may be recorded.
func mayBe(c api.Call) bool {
	if c.Kind == api.CallSample {
		return c.X >= -0x1p960 && c.X <= 0x1p960
	}
	return c.N >= 0
}

// width tells how many cells an instrument has, of a buffer and a stripe.
func width(kind, p int) int {
	switch kind {
	case api.Counter:
		return 2
	case api.Histogram:
		return 2 + bucket.Length(p)
	}
	return 5
}

// page is an instrument of a book.
type page struct {
	desc  api.Desc
	rows  []*row // stripe by stripe
	total slab.Part
}

func newRows(stripes int) (out []*row) {
	for range stripes {
		out = append(out, &row{})
	}
	return out
}

// pen is a recorder of a book.
type pen struct {
	there, closed bool
	stripe        int
}

// book is a plain registry: it does one call behind the other.
type book struct {
	api.Config
	pages         []*page
	taken         []bool
	refused, ever uint64 // since the Reset ahead, and up to that
}

func newBook(c api.Config) *book { return &book{Config: c, taken: make([]bool, c.Stripes)} }

// width tells how many cells a buffer has of a stripe.
func (b *book) width() (n int) {
	for _, p := range b.pages {
		n += width(p.desc.Kind, b.Precision)
	}
	return n
}

func (b *book) register(d api.Desc) (int, api.Errno) {
	if e := label.Check(d); e != api.OK {
		return 0, e
	}
	for id, p := range b.pages {
		if p.desc.Name != d.Name {
			continue
		}
		if p.desc.Kind != d.Kind || p.desc.Help != d.Help {
			return 0, api.ErrUnlike
		}
		if slices.Equal(p.desc.Labels, d.Labels) {
			return id, api.OK
		}
	}
	if len(b.pages) == 256 {
		return 0, api.ErrMany
	}
	if 2*b.Stripes*(b.width()+width(d.Kind, b.Precision)) > b.Cells {
		return 0, api.ErrRoom
	}
	d.Labels = slices.Clone(d.Labels)
	b.pages = append(b.pages, &page{desc: d, rows: newRows(b.Stripes)})
	return len(b.pages) - 1, api.OK
}

func (b *book) take() (int, api.Errno) {
	stripe := slices.Index(b.taken, false)
	if stripe < 0 {
		return 0, api.ErrFull
	}
	b.taken[stripe] = true
	return stripe, api.OK
}

// refusal tells which error a record is refused with; OK, if it isn't.
func (b *book) refusal(by pen, id int, c api.Call) api.Errno {
	switch {
	case by.closed:
		return api.ErrState
	case kindOf(c) != b.pages[id].desc.Kind:
		return api.ErrKind
	case !mayBe(c):
		return api.ErrRange
	}
	return api.OK
}

func (b *book) record(by pen, id int, c api.Call) api.Errno {
	if e := b.refusal(by, id, c); e != api.OK {
		b.refused++
		return e
	}
	w := b.pages[id].rows[by.stripe]
	if c.Kind == api.CallSample {
		w.x = append(w.x, c.X)
	} else {
		w.n = append(w.n, c.N)
	}
	return api.OK
}

// told tells a snapshot, of parts by the instruments' numbers.
func (b *book) told(parts []slab.Part, refused uint64) api.Snapshot {
	s := api.Snapshot{Precision: b.Precision, Refused: refused}
	for id, p := range b.pages {
		s.Values = append(s.Values, slab.Value(p.desc, parts[id]))
	}
	slices.SortFunc(s.Values, func(a, b api.Value) int { return label.Compare(a.Desc, b.Desc) })
	return s
}

func (b *book) reset() api.Snapshot {
	var parts []slab.Part
	for _, p := range b.pages {
		part := slab.Part{}
		for _, w := range p.rows {
			part = slab.Merge(part, w.part(p.desc.Kind, b.Precision))
		}
		parts = append(parts, part)
		p.total = slab.Merge(p.total, part)
		p.rows = newRows(b.Stripes)
	}
	s := b.told(parts, b.refused)
	b.ever, b.refused = b.ever+b.refused, 0
	return s
}

func (b *book) totals() api.Snapshot {
	var parts []slab.Part
	for _, p := range b.pages {
		parts = append(parts, p.total)
	}
	return b.told(parts, b.ever)
}

// do does a call that isn't refused by its slots: a record of the instrument id by a pen. It tells what the call answers: E, N and Snapshot alone.
func (b *book) do(by *pen, id int, c api.Call) (out api.Done) {
	switch c.Kind {
	case api.CallRegister:
		out.N, out.E = b.register(c.Desc)
	case api.CallRecorder:
		if out.N, out.E = b.take(); out.E == api.OK {
			*by = pen{there: true, stripe: out.N}
		}
	case api.CallRelease:
		if by.closed {
			return api.Done{E: api.ErrState}
		}
		by.closed, b.taken[by.stripe] = true, false
	case api.CallReset:
		out.Snapshot = b.reset()
	case api.CallTotals:
		out.Snapshot = b.totals()
	default:
		out.E = b.record(*by, id, c)
	}
	return out
}

// step does a step of a model's thread, and tells the next one of the same call; nil, if it has ended.
type step func() step

// after tells a step behind so many that are of no account here.
func after(n int, then step) step {
	if n == 0 {
		return then
	}
	return func() step { return after(n-1, then) }
}

// hand is a model's thread.
type hand struct {
	left []api.Call
	next step // which it stands in
	call api.Call
	by   *pen // the call's
	id   int
	now  api.Done
	told api.Done // what the call answers, when it ends
	log  []api.Done
	pens [16]pen
}

// model is a script as the document says it, step by step, without threads. What a call answers is what the book says at its point.
type model struct {
	*book
	hands         []*hand
	ids           map[int]int // the slots that have a number
	next, serving int64
	start         int64
	left          [2]int64 // even and odd
	picks         int
}

func newModel(c api.Config, threads [][]api.Call) *model {
	m := &model{book: newBook(c), ids: map[int]int{}, left: [2]int64{0, math.MinInt64}}
	for _, calls := range threads {
		h := &hand{left: calls}
		m.hands = append(m.hands, h)
		m.begin(h)
	}
	return m
}

// begin lets a thread go on, till it stands in a step or has ended.
func (m *model) begin(h *hand) {
	for h.next == nil && len(h.left) > 0 {
		h.call, h.left = h.left[0], h.left[1:]
		h.now, h.told = api.Done{From: m.picks}, api.Done{}
		if h.told.E = m.slots(h); h.told.E == api.OK {
			h.next = m.first(h)
		}
		if h.next == nil {
			m.end(h)
		}
	}
}

// slots tells the error that a call is refused with for its kind or its slots; of one that isn't, the hand has the pen and the number.
func (m *model) slots(h *hand) api.Errno {
	c := h.call
	if c.Kind < 1 || c.Kind > 8 {
		return api.ErrKind
	}
	record := c.Kind >= api.CallAdd && c.Kind <= api.CallSample
	noSlot := (c.Kind == api.CallRegister || record) && (c.Slot < 0 || c.Slot > 15)
	noRec := (c.Kind == api.CallRecorder || c.Kind == api.CallRelease || record) && (c.Rec < 0 || c.Rec > 15)
	if noSlot || noRec {
		return api.ErrRange
	}
	if c.Kind == api.CallRegister || c.Kind >= api.CallReset {
		return api.OK
	}
	h.by = &h.pens[c.Rec]
	if c.Kind == api.CallRecorder {
		if h.by.there && !h.by.closed {
			return api.ErrState
		}
		return api.OK
	}
	id, there := m.ids[c.Slot]
	if !h.by.there || record && !there {
		return api.ErrAbsent
	}
	h.id = id
	return api.OK
}

// answer lets the book do a call.
func (m *model) answer(h *hand) { h.told = m.do(h.by, h.id, h.call) }

func (m *model) end(h *hand) {
	if _, there := m.ids[h.call.Slot]; h.call.Kind == api.CallRegister && h.told.E == api.OK && !there {
		m.ids[h.call.Slot] = h.told.N
	}
	h.now.E, h.now.N, h.now.Snapshot = h.told.E, h.told.N, h.told.Snapshot
	h.now.Ended, h.now.To = true, m.picks
	h.log = append(h.log, h.now)
}

// pick does a thread's next step.
func (m *model) pick(h *hand) {
	m.picks++
	if h.next == nil {
		return
	}
	h.now.Steps++
	if h.next = h.next(); h.next == nil {
		m.end(h)
		m.begin(h)
	}
}

// first tells the first step of a call; nil, if the registry refuses it without one.
func (m *model) first(h *hand) step {
	switch h.call.Kind {
	case api.CallRegister:
		if h.told.E = label.Check(h.call.Desc); h.told.E != api.OK {
			return nil
		}
	case api.CallRelease:
		if h.by.closed {
			h.told.E = api.ErrState
			return nil
		}
	case api.CallReset:
		return m.take(h, func() step { return m.turn(h) })
	case api.CallAdd, api.CallObserve, api.CallSample:
		return m.enter(h)
	}
	return m.take(h, func() step {
		m.answer(h)
		return m.give
	})
}

func (m *model) take(h *hand, then step) step {
	return func() step {
		ticket := m.next
		m.next++
		var look step
		look = func() step {
			if m.serving != ticket {
				h.now.Polls++
				return look
			}
			h.now.Point = m.picks
			return then()
		}
		return look
	}
}

func (m *model) give() step {
	m.serving++
	return nil
}

// phase tells the place of a phase's word.
func phase(start int64) int {
	if start < 0 {
		return 1
	}
	return 0
}

func (m *model) enter(h *hand) step {
	return func() step {
		in := phase(m.start)
		m.start++
		leave := func() step {
			m.left[in]++
			return nil
		}
		return func() step {
			h.now.Point = m.picks
			n := 1
			if m.refusal(*h.by, h.id, h.call) == api.OK {
				n = m.pages[h.id].rows[h.by.stripe].steps(h.call)
			}
			m.answer(h)
			return after(n, leave)
		}
	}
}

// turn is a Reset's, that has taken the lock.
func (m *model) turn(h *hand) step {
	from := [2]int64{0, math.MinInt64}
	old, mark := 0, int64(0)
	var look step
	look = func() step {
		if m.left[old] != mark {
			h.now.Polls++
			return look
		}
		return after(m.Stripes*m.width()+1, m.give)
	}
	swap := func() step {
		mark, m.start = m.start, from[1-old]
		return look
	}
	store := func() step {
		m.left[1-old] = from[1-old]
		return swap
	}
	load := func() step {
		old = phase(m.start)
		return store
	}
	return func() step {
		h.now.Point = m.picks
		m.answer(h)
		return load
	}
}

// want tells what must become of a script.
func want(c api.Config, s api.Script) api.History {
	m := newModel(c, s.Threads)
	n := len(m.hands)
	for _, p := range s.Picks {
		m.pick(m.hands[(p%n+n)%n])
	}
	for on := true; s.Drain && on; {
		on = false
		for _, h := range m.hands {
			if h.next != nil {
				m.pick(h)
				on = true
			}
		}
	}
	out := api.History{Picks: m.picks}
	for _, h := range m.hands {
		if h.next != nil {
			h.now.To = m.picks
			h.log = append(h.log, h.now)
		}
		out.Threads = append(out.Threads, h.log)
	}
	return out
}
