package telem_test

import (
	"slices"

	"gnomon/api"
	"gnomon/bucket"
	"gnomon/label"
	"gnomon/real"
	"gnomon/slab"
	"gnomon/telem"
	"gnomon/wide"
)

// book is a plain account of a Telem, which does one call behind the other. Sums of floats are right in it, where none of them is rounded.
type book struct {
	config           api.Config
	room             int
	descs            []api.Desc // by their numbers
	held             []bool     // which stripes are not free
	hands            []hand     // by their handles, from 1 on
	interval, totals page
}

// hand is a handle: which stripe it has, or had.
type hand struct {
	stripe   int
	released bool
}

// page is what was recorded, by the instruments' numbers.
type page struct {
	values  []api.Value
	refused uint64
}

// newBook makes one of a config that may be.
func newBook(c api.Config) *book {
	return &book{config: c, room: c.Cells, held: make([]bool, c.Stripes)}
}

func (b *book) register(d api.Desc) (int, api.Errno) {
	if e := label.Check(d); e != api.OK {
		return 0, e
	}
	for id, other := range b.descs {
		if label.Compare(d, other) == 0 && d.Kind == other.Kind && d.Help == other.Help {
			return id, api.OK
		}
	}
	for _, other := range b.descs {
		if d.Name == other.Name && (d.Kind != other.Kind || d.Help != other.Help) {
			return 0, api.ErrUnlike
		}
	}
	if len(b.descs) == api.MaxInstruments {
		return 0, api.ErrMany
	}
	n := slab.Cells(d.Kind, b.config.Stripes, b.config.Precision)
	if n > b.room {
		return 0, api.ErrRoom
	}
	b.room -= n
	b.descs = append(b.descs, d)
	b.interval.values = append(b.interval.values, api.Value{Desc: d})
	b.totals.values = append(b.totals.values, api.Value{Desc: d})
	return len(b.descs) - 1, api.OK
}

// take takes the least stripe that is free; -1, if none is.
func (b *book) take() int {
	stripe := slices.Index(b.held, false)
	if stripe >= 0 {
		b.held[stripe] = true
	}
	return stripe
}

func (b *book) recorder() (int, api.Errno) {
	stripe := b.take()
	if stripe < 0 {
		return 0, api.ErrFull
	}
	b.hands = append(b.hands, hand{stripe: stripe})
	return len(b.hands), api.OK
}

// isHandle tells whether a number was told by recorder.
func (b *book) isHandle(h int) bool { return h >= 1 && h <= len(b.hands) }

func (b *book) release(h int) api.Errno {
	if !b.isHandle(h) {
		return api.ErrAbsent
	}
	mine := &b.hands[h-1]
	if mine.released {
		return api.ErrState
	}
	mine.released, b.held[mine.stripe] = true, false
	return api.OK
}

// record is an Add, Observe or Sample, by the kind, of whole numbers or floats.
func (b *book) record(h, kind, id int, n int64, x float64) api.Errno {
	if !b.isHandle(h) {
		return api.ErrAbsent
	}
	return b.lay(b.hands[h-1].released, kind, id, n, x)
}

// lay records by a recorder that was released or not.
func (b *book) lay(released bool, kind, id int, n int64, x float64) api.Errno {
	if id < 0 || id >= len(b.descs) {
		return api.ErrAbsent
	}
	e := api.OK
	switch {
	case released:
		e = api.ErrState
	case kind != b.descs[id].Kind:
		e = api.ErrKind
	case kind == api.Summary && !real.May(x), kind != api.Summary && n < 0:
		e = api.ErrRange
	}
	if e != api.OK {
		b.interval.refused++
		return e
	}
	b.interval.values[id] = joined(b.interval.values[id], one(b.config.Precision, b.descs[id], n, x))
	return api.OK
}

func (b *book) burst(l []telem.Work) []api.Errno {
	answer := make([]api.Errno, len(l))
	var stripes, places []int
	for at, w := range l {
		if !slices.Contains(kinds, w.Kind) {
			answer[at] = api.ErrKind
		} else if stripe := b.take(); stripe < 0 {
			answer[at] = api.ErrFull
		} else {
			stripes, places = append(stripes, stripe), append(places, at)
		}
	}
	for _, at := range places {
		answer[at] = b.work(l[at])
	}
	for _, stripe := range stripes {
		b.held[stripe] = false
	}
	return answer
}

// work records what a Work has, and tells the first error.
func (b *book) work(w telem.Work) api.Errno {
	var errnos []api.Errno
	if w.Kind == api.Summary {
		for _, x := range w.X {
			errnos = append(errnos, b.lay(false, w.Kind, w.ID, 0, x))
		}
	} else {
		for _, n := range w.N {
			errnos = append(errnos, b.lay(false, w.Kind, w.ID, n, 0))
		}
	}
	if wrong := slices.IndexFunc(errnos, func(e api.Errno) bool { return e != api.OK }); wrong >= 0 {
		return errnos[wrong]
	}
	return api.OK
}

func (b *book) reset() api.Snapshot {
	told := b.snapshot(b.interval)
	b.totals.refused += b.interval.refused
	b.interval.refused = 0
	for id, v := range b.interval.values {
		b.totals.values[id] = joined(b.totals.values[id], v)
		b.interval.values[id] = api.Value{Desc: b.descs[id]}
	}
	return told
}

func (b *book) total() api.Snapshot { return b.snapshot(b.totals) }

func (b *book) snapshot(p page) api.Snapshot {
	values := slices.Clone(p.values)
	slices.SortFunc(values, func(a, b api.Value) int { return label.Compare(a.Desc, b.Desc) })
	return api.Snapshot{Precision: b.config.Precision, Values: values, Refused: p.refused}
}

// one is what an instrument comes to by one record.
func one(p int, d api.Desc, n int64, x float64) api.Value {
	switch d.Kind {
	case api.Counter:
		return api.Value{Desc: d, Total: wide.Of(n)}
	case api.Histogram:
		i, _ := bucket.Index(p, n)
		return api.Value{Desc: d, Total: wide.Of(n), Counts: []api.Count{{Index: i, N: 1}}, N: 1}
	}
	return api.Value{Desc: d, N: 1, Sum: x, Min: x, Max: x}
}

// joined is what two values of one instrument come to.
func joined(a, b api.Value) api.Value {
	if b.N == 0 && b.Total == (api.Int{}) {
		return a
	}
	out := api.Value{Desc: a.Desc, Total: wide.Add(a.Total, b.Total), N: a.N + b.N, Sum: a.Sum + b.Sum, Min: b.Min, Max: b.Max}
	if a.N > 0 && real.Compare(a.Min, b.Min) < 0 {
		out.Min = a.Min
	}
	if a.N > 0 && real.Compare(a.Max, b.Max) > 0 {
		out.Max = a.Max
	}
	out.Counts = slices.Clone(a.Counts)
	for _, c := range b.Counts {
		at, there := slices.BinarySearchFunc(out.Counts, c.Index, func(c api.Count, i int) int { return c.Index - i })
		if !there {
			out.Counts = slices.Insert(out.Counts, at, api.Count{Index: c.Index})
		}
		out.Counts[at].N += c.N
	}
	return out
}
