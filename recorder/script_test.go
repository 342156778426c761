package recorder_test

import (
	"cmp"
	"fmt"
	"math"
	"math/bits"
	"math/rand"
	"slices"
	"testing"

	"gnomon/api"
	"gnomon/bucket"
	"gnomon/gate"
	"gnomon/pair"
	"gnomon/recorder"
	"gnomon/slab"
)

// row is a plain account: what was recorded in a slab, a buffer and a stripe.
type row struct {
	n []int64
	x []float64
}

// keep keeps a record.
func (w *row) keep(c record) {
	if c.kind == api.Summary {
		w.x = append(w.x, c.x)
	} else {
		w.n = append(w.n, c.n)
	}
}

// total tells what the whole numbers came to.
func (w *row) total() (sum api.Int) {
	for _, n := range w.n {
		lo, carry := bits.Add64(sum.Lo, uint64(n), 0)
		sum.Hi, sum.Lo = sum.Hi+int64(carry), lo
	}
	return sum
}

// ahead tells whether a stands ahead of b in the order of floats.
func ahead(a, b float64) bool {
	return a < b || a == b && math.Signbit(a) && !math.Signbit(b)
}

// part tells what came of it.
func (w *row) part(kind int) (out slab.Part) {
	if kind != api.Summary {
		out.Total = w.total()
	}
	if kind == api.Histogram {
		n := map[int]uint64{}
		for _, v := range w.n {
			i, _ := bucket.Index(1, v)
			n[i]++
		}
		for i, n := range n {
			out.Counts = append(out.Counts, api.Count{Index: i, N: n})
		}
		slices.SortFunc(out.Counts, func(a, b api.Count) int { return cmp.Compare(a.Index, b.Index) })
		out.N = uint64(len(w.n))
	}
	if kind == api.Summary && len(w.x) > 0 {
		out.N, out.Pair, out.Min, out.Max = uint64(len(w.x)), pair.Of(w.x), w.x[0], w.x[0]
		for _, x := range w.x {
			if ahead(x, out.Min) {
				out.Min = x
			}
			if ahead(out.Max, x) {
				out.Max = x
			}
		}
	}
	return out
}

// steps tells how many steps of the instrument a record does.
func (w *row) steps(c record) int {
	if c.kind == api.Summary {
		n := 7
		if !slices.ContainsFunc(w.x, func(x float64) bool { return !ahead(c.x, x) }) {
			n++
		}
		if !slices.ContainsFunc(w.x, func(x float64) bool { return !ahead(x, c.x) }) {
			n++
		}
		return n
	}
	then := row{n: append(slices.Clone(w.n), c.n)}
	// A histogram's bucket is one more than what a counter has.
	return c.kind + int(then.total().Hi-w.total().Hi)
}

// part of all stripes.
func partOf(kind int, rows []*row) (out slab.Part) {
	for _, w := range rows {
		out = slab.Merge(out, w.part(kind))
	}
	return out
}

// What a thread may do.
const (
	toRecord  = iota
	toTurn    // and tell what lies in the buffer then
	toRefused // of the buffer at
	toClose
	toOpen // another recorder, of the stripe at
)

// deed is something that a thread does: which fields count, what tells.
type deed struct {
	what int
	record
	to, at int
}

// script is what threads do. Each begins with a recorder of the stripe of its own number.
type script struct {
	stripes int
	kinds   []int // of the slabs
	threads [][]deed
}

// done is what became of a deed.
type done struct {
	e        api.Errno
	n        uint64 // of toRefused
	buffer   int    // of toTurn, as are those below
	polls    int
	parts    []slab.Part // slab by slab
	refused  uint64
	from, to int // picks
	tally    tally
	ended    bool
}

// story is what became of a script: of each thread what it has begun, how many picks there were, and, if all have ended, what lies in both buffers.
type story struct {
	threads [][]done
	picks   int
	parts   [2][]slab.Part
	refused [2]uint64
}

// world is what the threads of a script share.
type world struct {
	script
	shared *recorder.Shared
	slabs  []*slab.Slab
	story  story
}

// play plays a script.
func (s script) play(t *testing.T, picks []int, drain bool) story {
	t.Helper()
	w := &world{script: s, shared: recorder.New()}
	for _, kind := range s.kinds {
		w.slabs = append(w.slabs, laid(t, kind, s.stripes))
	}
	w.story.threads = make([][]done, len(s.threads))
	var bodies []func(g *gate.Gate)
	for th := range s.threads {
		bodies = append(bodies, func(g *gate.Gate) { w.live(g, th) })
	}
	w.story.picks = gate.Run(bodies, picks, drain)
	for buffer := range 2 {
		if drain {
			w.story.parts[buffer] = w.drain(buffer)
			w.story.refused[buffer] = w.shared.Refused(nil, buffer)
		}
	}
	return w.story
}

func (w *world) drain(buffer int) (out []slab.Part) {
	for _, s := range w.slabs {
		p, _ := s.Drain(nil, buffer)
		out = append(out, p)
	}
	return out
}

// live is a thread's life. What it was about when it was let go is told, too.
func (w *world) live(g *gate.Gate, th int) {
	x := w.shared.Recorder(th)
	for _, d := range w.threads[th] {
		func() {
			o := done{from: g.Picks()}
			g.Begin()
			defer func() {
				o.tally.steps, o.tally.polls, o.tally.point = g.Tally()
				o.to = g.Picks()
				w.story.threads[th] = append(w.story.threads[th], o)
			}()
			switch d.what {
			case toRecord:
				o.e = d.do(x, g, w.slabs[d.to])
			case toTurn:
				o.buffer, o.polls = w.shared.Turn(g)
				o.parts, o.refused = w.drain(o.buffer), w.shared.Refused(nil, o.buffer)
			case toRefused:
				o.n = w.shared.Refused(g, d.at)
			case toClose:
				o.e = x.Close()
			case toOpen:
				x = w.shared.Recorder(d.at)
			}
			o.ended = true
		}()
	}
}

// step does a step of a model's thread, and tells the next one of the same deed; nil, if it has ended.
type step func() step

// after tells a step behind so many that are of no account here.
func after(n int, then step) step {
	if n == 0 {
		return then
	}
	return func() step { return after(n-1, then) }
}

// hand is a model's thread.
type hand struct {
	left   []deed
	next   step // which it stands in
	now    done
	log    []done
	stripe int
	closed bool
}

// model is a script as the document says it, word by word and step by step, without threads.
type model struct {
	script
	hands            []*hand
	start, even, odd int64
	active           int
	refused          [2]uint64
	rows             [2][][]*row // by buffer, slab, stripe
	picks            int
}

func newModel(s script) *model {
	m := &model{script: s, odd: math.MinInt64}
	for buffer := range 2 {
		for range s.kinds {
			m.rows[buffer] = append(m.rows[buffer], nil)
		}
		m.drain(buffer)
	}
	for th, deeds := range s.threads {
		m.hands = append(m.hands, &hand{left: deeds, stripe: th})
		m.begin(m.hands[th])
	}
	return m
}

// drain tells what lies in a buffer, which is empty then.
func (m *model) drain(buffer int) (out []slab.Part) {
	for i, kind := range m.kinds {
		out = append(out, partOf(kind, m.rows[buffer][i]))
		m.rows[buffer][i] = nil
		for range m.stripes {
			m.rows[buffer][i] = append(m.rows[buffer][i], &row{})
		}
	}
	return out
}

// refuse tells how many were refused, and begins anew.
func (m *model) refuse(buffer int) (n uint64) {
	n, m.refused[buffer] = m.refused[buffer], 0
	return n
}

// begin lets a thread go on, till it stands in a step or has ended.
func (m *model) begin(h *hand) {
	for h.next == nil && len(h.left) > 0 {
		d := h.left[0]
		h.left = h.left[1:]
		h.now = done{from: m.picks}
		if h.next = m.first(h, d); h.next == nil {
			m.end(h)
		}
	}
}

func (m *model) end(h *hand) {
	h.now.ended, h.now.to = true, m.picks
	h.log = append(h.log, h.now)
}

// pick does a thread's next step.
func (m *model) pick(h *hand) {
	m.picks++
	if h.next == nil {
		return
	}
	h.now.tally.steps++
	if h.next = h.next(); h.next == nil {
		m.end(h)
		m.begin(h)
	}
}

// first tells a deed's first step; nil, if it has none, and is done.
func (m *model) first(h *hand, d deed) step {
	switch d.what {
	case toRecord:
		return m.record(h, d)
	case toTurn:
		return m.turn(h)
	case toRefused:
		if d.at == 0 || d.at == 1 {
			return func() step {
				h.now.n = m.refuse(d.at)
				return nil
			}
		}
	case toClose:
		if h.closed {
			h.now.e = api.ErrState
		}
		h.closed = true
	case toOpen:
		h.stripe, h.closed = d.at, false
	}
	return nil
}

func (m *model) record(h *hand, d deed) step {
	return func() step {
		odd := m.start < 0
		m.start++
		leave := func() step {
			if odd {
				m.odd++
			} else {
				m.even++
			}
			h.now.e = refusal(h.closed, d.record, m.kinds[d.to], h.stripe >= 0 && h.stripe < m.stripes)
			return nil
		}
		return func() step {
			buffer := m.active
			h.now.tally.point = m.picks
			if refusal(h.closed, d.record, m.kinds[d.to], h.stripe >= 0 && h.stripe < m.stripes) != api.OK {
				return func() step {
					m.refused[buffer]++
					return leave
				}
			}
			w := m.rows[buffer][d.to][h.stripe]
			n := w.steps(d.record)
			// It is not to be seen ahead of its leaving at which of these steps it is kept.
			w.keep(d.record)
			return after(n, leave)
		}
	}
}

func (m *model) turn(h *hand) step {
	old, wasOdd, mark := 0, false, int64(0)
	var look step
	look = func() step {
		if wasOdd && m.odd != mark || !wasOdd && m.even != mark {
			h.now.tally.polls++
			return look
		}
		h.now.polls = h.now.tally.polls
		h.now.buffer, h.now.parts, h.now.refused = old, m.drain(old), m.refuse(old)
		return nil
	}
	swap := func() step {
		mark = m.start
		m.start = math.MinInt64
		if wasOdd {
			m.start = 0
		}
		return look
	}
	store := func() step {
		if wasOdd {
			m.even = 0
		} else {
			m.odd = math.MinInt64
		}
		return swap
	}
	load := func() step {
		wasOdd = m.start < 0
		return store
	}
	return func() step {
		old, m.active = m.active, 1-m.active
		h.now.tally.point = m.picks
		return load
	}
}

// want tells what must become of a script.
func (s script) want(picks []int, drain bool) story {
	m := newModel(s)
	for _, p := range picks {
		m.pick(m.hands[p])
	}
	for on := true; drain && on; {
		on = false
		for _, h := range m.hands {
			if h.next != nil {
				m.pick(h)
				on = true
			}
		}
	}
	out := story{picks: m.picks}
	for _, h := range m.hands {
		if h.next != nil {
			h.now.to = m.picks
			h.log = append(h.log, h.now)
		}
		out.threads = append(out.threads, h.log)
	}
	for buffer := range 2 {
		if drain {
			out.parts[buffer], out.refused[buffer] = m.drain(buffer), m.refuse(buffer)
		}
	}
	return out
}

// check holds a script's play against the model.
func check(t *testing.T, s script, picks []int, drain bool) story {
	t.Helper()
	got := s.play(t, picks, drain)
	if want := s.want(picks, drain); !same(got, want) {
		t.Fatalf("%+v, picks %v, drain: %t:\n%+v, not\n%+v", s, picks, drain, got, want)
	}
	return got
}

// interval tells, of all that was recorded ahead of some pick and behind another one, what it came to, slab by slab, and how many were refused: by the points that the gate tells, and by nothing else. Who has not ended by then is an error.
func (s script) interval(o story, from, to, end int) (parts []slab.Part, refused uint64, err error) {
	rows := make([][]*row, len(s.kinds))
	for i := range s.kinds {
		for range s.stripes {
			rows[i] = append(rows[i], &row{})
		}
	}
	for th := range s.threads {
		for k, done := range o.threads[th] {
			d := s.threads[th][k]
			if d.what != toRecord || done.tally.point <= from || done.tally.point >= to {
				continue
			}
			if !done.ended || done.to > end {
				return nil, 0, fmt.Errorf("thread %d records yet: %+v", th, d)
			}
			if done.e == api.OK {
				rows[d.to][th].keep(d.record)
			} else {
				refused++
			}
		}
	}
	for i, kind := range s.kinds {
		parts = append(parts, partOf(kind, rows[i]))
	}
	return parts, refused, nil
}

// account holds what a script's Turns told against what was recorded between their points; it tells how many Turns have ended. No thread of the script has been told how many were refused otherwise, or has recorded in a stripe of another one's number.
func (s script) account(t *testing.T, o story) (turns int) {
	t.Helper()
	last := 0
	for th := range s.threads {
		for k, done := range o.threads[th] {
			if s.threads[th][k].what != toTurn || !done.ended {
				continue
			}
			parts, refused, err := s.interval(o, last, done.tally.point, done.to)
			if err != nil || !same(done.parts, parts) || done.refused != refused || done.buffer != turns%2 {
				t.Fatalf("%+v: the Turn at %d (the one ahead at %d) tells %+v, not %+v, and %d refused, not %d (%v)", s, done.tally.point, last, done, parts, done.refused, refused, err)
			}
			last = done.tally.point
			turns++
		}
	}
	return turns
}

// some tells one of a list.
func some[T any](r *rand.Rand, l []T) T { return l[r.Intn(len(l))] }

// someRecord tells one of any kind, that may be more often than not.
func someRecord(r *rand.Rand) record {
	c := record{kind: some(r, kinds), n: some(r, wholes), x: some(r, floats)}
	switch r.Intn(6) {
	case 0:
		c.n, c.x = some(r, noWholes), some(r, noFloats)
	case 1, 2:
		c.n, c.x = r.Int63(), r.NormFloat64()*math.Ldexp(1, r.Intn(200)-100)
	}
	return c
}

// someDeed tells one: a record more often than not, of the slab's own kind more often than not.
func (s script) someDeed(r *rand.Rand, th int, plain bool) deed {
	d := deed{record: someRecord(r), to: r.Intn(len(s.kinds))}
	if r.Intn(8) > 0 {
		d.kind = s.kinds[d.to]
	}
	switch r.Intn(20) {
	case 0:
		d.what = toClose
	case 1, 2:
		d.what, d.at = toOpen, th
	}
	if plain {
		return d
	}
	switch r.Intn(20) {
	case 0:
		d.what, d.at = toRefused, some(r, []int{0, 1, 0, 1, 2, -1, math.MaxInt, math.MinInt})
	case 1:
		d.what, d.at = toOpen, some(r, noStripes)
	}
	return d
}

// someScript tells one in which one thread turns. A plain one asks for refused records by Turns alone, and leaves each stripe to the thread of its number.
func someScript(r *rand.Rand, plain bool) script {
	s := script{stripes: 1 + r.Intn(9), kinds: []int{some(r, kinds)}}
	for range r.Intn(4) {
		s.kinds = append(s.kinds, some(r, kinds))
	}
	threads := 1 + r.Intn(api.MaxThreads)
	turner := r.Intn(threads)
	for th := range threads {
		var l []deed
		for range r.Intn(12) {
			d := s.someDeed(r, th, plain)
			if th == turner && r.Intn(2) == 0 {
				d = deed{what: toTurn}
			}
			l = append(l, d)
		}
		s.threads = append(s.threads, l)
	}
	return s
}

// somePicks draws a schedule: one of any picks, or one in which threads go on for a while, or in which some come seldom.
func somePicks(r *rand.Rand, threads int) (out []int) {
	often := 1 + r.Intn(threads)
	long := 1 + r.Intn(6)
	for range r.Intn(200) {
		th := r.Intn(threads)
		if r.Intn(10) > 0 {
			th = r.Intn(often)
		}
		out = append(out, slices.Repeat([]int{th}, 1+r.Intn(long))...)
	}
	return out
}

// P14.1

// One thread does all of it by itself.
func TestScriptsOfOneThread(t *testing.T) {
	r := rand.New(rand.NewSource(142))
	turns, polls := 0, 0
	for range 600 {
		s := someScript(r, false)
		s.threads = s.threads[:1]
		for range r.Intn(100) {
			d := s.someDeed(r, 0, false)
			if r.Intn(8) == 0 {
				d = deed{what: toTurn}
				turns++
			}
			s.threads[0] = append(s.threads[0], d)
		}
		for _, done := range check(t, s, nil, true).threads[0] {
			polls += done.polls
		}
	}
	if turns < 1000 || polls != 0 {
		t.Errorf("%d turns, %d polls", turns, polls)
	}
}

// Many threads, whoever's step comes next.
func TestScriptsGoAsTheModel(t *testing.T) {
	r := rand.New(rand.NewSource(143))
	seen := map[api.Errno]int{}
	turns, polls, cut := 0, 0, 0
	for range 4000 {
		s := someScript(r, false)
		o := check(t, s, somePicks(r, len(s.threads)), r.Intn(2) == 0)
		for th, l := range o.threads {
			for k, done := range l {
				switch {
				case !done.ended:
					cut++
				case s.threads[th][k].what == toTurn:
					turns++
					polls += done.polls
				case s.threads[th][k].what == toRecord:
					seen[done.e]++
					if done.tally.steps > 12 || done.tally.polls != 0 {
						t.Fatalf("%+v: %+v", s.threads[th][k], done)
					}
				}
			}
		}
	}
	if len(seen) != 5 || turns < 2000 || polls < 2000 || cut < 2000 {
		t.Errorf("too little was tried: %v, %d Turns, %d polls, %d cut off", seen, turns, polls, cut)
	}
}

// allPicks tells every list of so many picks of so many threads.
func allPicks(threads, picks int, tell func(picks []int)) {
	list := make([]int, picks)
	var from func(i int)
	from = func(i int) {
		if i == picks {
			tell(list)
			return
		}
		for t := range threads {
			list[i] = t
			from(i + 1)
		}
	}
	from(0)
}

// Every history of a few calls: where a Turn comes between the steps of records, be they refused or not.
func TestEveryHistory(t *testing.T) {
	add := deed{record: record{kind: api.Counter, n: 5}}
	wrong := deed{record: record{kind: api.Counter, n: -5}}
	turn := deed{what: toTurn}
	of := func(threads ...[]deed) script {
		return script{stripes: 3, kinds: []int{api.Counter}, threads: threads}
	}
	for _, c := range []struct {
		script
		picks int
	}{
		{of([]deed{turn}, []deed{add}), 10},
		{of([]deed{turn}, []deed{wrong}), 10},
		{of([]deed{turn, turn}, []deed{add}), 12},
		{of([]deed{turn, turn}, []deed{add, wrong}), 12},
		{of([]deed{add, turn}, []deed{wrong, add}), 12},
		{of([]deed{turn}, []deed{add}, []deed{add}), 8},
		{of([]deed{turn, turn}, []deed{add}, []deed{wrong}), 8},
	} {
		for _, drain := range []bool{false, true} {
			allPicks(len(c.threads), c.picks, func(picks []int) { c.account(t, check(t, c.script, picks, drain)) })
		}
	}
}

// The same script has the same story.
func TestScriptsAreAlikeEachTime(t *testing.T) {
	r := rand.New(rand.NewSource(144))
	for range 100 {
		s, drain := someScript(r, false), r.Intn(2) == 0
		picks := somePicks(r, len(s.threads))
		first := s.play(t, picks, drain)
		for range 3 {
			wants(t, s, s.play(t, picks, drain), first)
		}
	}
}

// P14.2: what a Turn tells is what was recorded since the Turn ahead, by the points of the records: all of it, and nothing else.

func TestWhatLiesInTheBuffer(t *testing.T) {
	r := rand.New(rand.NewSource(145))
	turns := 0
	for range 4000 {
		s := someScript(r, true)
		picks, drain := somePicks(r, len(s.threads)), r.Intn(2) == 0
		turns += s.account(t, s.play(t, picks, drain))
	}
	if turns < 2000 {
		t.Errorf("%d Turns alone", turns)
	}
}

// What comes behind the last Turn lies in the buffer that is active then, and nothing in the other one; all Turns together, and that, have all that was answered OK, and all that was refused.
func TestNothingIsLost(t *testing.T) {
	r := rand.New(rand.NewSource(146))
	for range 1500 {
		s := someScript(r, true)
		o := s.play(t, somePicks(r, len(s.threads)), true)
		last, turns := 0, s.account(t, o)
		told := uint64(0)
		for th := range s.threads {
			for k, done := range o.threads[th] {
				if s.threads[th][k].what == toTurn {
					last = max(last, done.tally.point)
					told += done.refused
				}
			}
		}
		end := o.picks + 1
		parts, refused, err := s.interval(o, last, end, end)
		if err != nil {
			t.Fatal(err)
		}
		active := turns % 2
		wants(t, s, o.parts[active], parts)
		wants(t, s, o.parts[1-active], make([]slab.Part, len(s.kinds)))
		_, all, _ := s.interval(o, 0, end, end)
		if o.refused[active] != refused || o.refused[1-active] != 0 || told+refused != all {
			t.Fatalf("%+v: refused %v, %d told by Turns, of %d; %d since the last one", s, o.refused, told, all, refused)
		}
	}
}
