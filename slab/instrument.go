package slab

import (
	"math"
	"math/bits"

	"gnomon/api"
	"gnomon/bucket"
	"gnomon/gate"
	"gnomon/pair"
	float "gnomon/real" // by another name, as real itself tells a pair's sum here
	"gnomon/word"
)

// buffers is how many there are: while one is emptied, records go into the other.
const buffers = 2

// Where a sum's cells stand in a row. A counter has no others; a histogram's buckets stand behind them.
const (
	atLow = iota
	atHigh
	sumWidth
)

// Where a summary's cells stand in a row.
const (
	atN = iota
	atSum
	atRest
	atLeast
	atGreatest
	summaryWidth
)

// instrument is what a slab asks of each kind.
type instrument interface {
	kind() int
	width() int // how many cells a row has
	lay(stripes, width int)
	rows(buffer int) [][]word.Word
	add(g *gate.Gate, buffer, stripe int, n int64) api.Errno
	observe(g *gate.Gate, buffer, stripe int, v int64) api.Errno
	sample(g *gate.Gate, buffer, stripe int, x float64) api.Errno
	drain(g *gate.Gate, row []word.Word) Part // empties a row, and tells its part
}

// unlaid makes an instrument that has no cells yet; nil, if there is no such kind.
func unlaid(kind, p int) instrument {
	switch kind {
	case api.Counter:
		return &counter{}
	case api.Histogram:
		return &histogram{p: p}
	case api.Summary:
		return &summary{}
	}
	return nil
}

// isBuffer tells whether there is a buffer of that number.
func isBuffer(buffer int) bool { return buffer >= 0 && buffer < buffers }

// cells is what instruments of all kinds have.
type cells struct {
	held [buffers][][]word.Word // of each buffer a row for each stripe
}

// lay makes the cells.
func (c *cells) lay(stripes, width int) {
	for buffer := range buffers {
		for range stripes {
			c.held[buffer] = append(c.held[buffer], make([]word.Word, width))
		}
	}
}

// rows tells the cells of a buffer, stripe by stripe.
func (c *cells) rows(buffer int) [][]word.Word { return c.held[buffer] }

// row tells the row that a record goes into, or why it is refused; may says whether its value may be recorded.
func (c *cells) row(buffer, stripe int, may bool) ([]word.Word, api.Errno) {
	if !isBuffer(buffer) || stripe < 0 || stripe >= len(c.held[buffer]) {
		return nil, api.ErrArg
	}
	if !may {
		return nil, api.ErrRange
	}
	return c.held[buffer][stripe], api.OK
}

// add is for the kinds that don't take it; so are observe and sample. The kind that does has one of its own.
func (c *cells) add(*gate.Gate, int, int, int64) api.Errno { return api.ErrKind }

func (c *cells) observe(*gate.Gate, int, int, int64) api.Errno { return api.ErrKind }

func (c *cells) sample(*gate.Gate, int, int, float64) api.Errno { return api.ErrKind }

// counter has a sum.
type counter struct{ cells }

func (c *counter) kind() int { return api.Counter }

func (c *counter) width() int { return sumWidth }

func (c *counter) add(g *gate.Gate, buffer, stripe int, n int64) api.Errno {
	row, e := c.row(buffer, stripe, n >= 0)
	if e != api.OK {
		return e
	}
	addSum(g, row, n)
	return api.OK
}

func (c *counter) drain(g *gate.Gate, row []word.Word) Part {
	return Part{Total: drainSum(g, row)}
}

// histogram has a sum, and how many values fell into each bucket.
type histogram struct {
	cells
	p int
}

func (h *histogram) kind() int { return api.Histogram }

func (h *histogram) width() int { return sumWidth + bucket.Length(h.p) }

func (h *histogram) observe(g *gate.Gate, buffer, stripe int, v int64) api.Errno {
	// The precision is one that may be: so a value below 0 alone has no bucket.
	i, wrong := bucket.Index(h.p, v)
	row, e := h.row(buffer, stripe, wrong == api.OK)
	if e != api.OK {
		return e
	}
	row[sumWidth+i].Add(g, 1)
	addSum(g, row, v)
	return api.OK
}

func (h *histogram) drain(g *gate.Gate, row []word.Word) Part {
	p := Part{Total: drainSum(g, row)}
	for i := range len(row) - sumWidth {
		n := uint64(row[sumWidth+i].Swap(g, 0))
		if n != 0 {
			p.Counts = append(p.Counts, api.Count{Index: i, N: n})
			p.N += n
		}
	}
	return p
}

// summary has a pair of floats, how many there were, and the ends of their order.
type summary struct{ cells }

func (s *summary) kind() int { return api.Summary }

func (s *summary) width() int { return summaryWidth }

func (s *summary) sample(g *gate.Gate, buffer, stripe int, x float64) api.Errno {
	row, e := s.row(buffer, stripe, float.May(x))
	if e != api.OK {
		return e
	}
	row[atN].Add(g, 1)
	addPair(g, row, x)
	if float.Compare(x, loadFloat(g, &row[atLeast])) < 0 {
		storeFloat(g, &row[atLeast], x)
	}
	if float.Compare(x, loadFloat(g, &row[atGreatest])) > 0 {
		storeFloat(g, &row[atGreatest], x)
	}
	return api.OK
}

func (s *summary) drain(g *gate.Gate, row []word.Word) Part {
	n := uint64(row[atN].Swap(g, 0))
	sum := swapFloat(g, &row[atSum], 0)
	rest := swapFloat(g, &row[atRest], 0)
	least := swapFloat(g, &row[atLeast], math.Inf(1))
	greatest := swapFloat(g, &row[atGreatest], math.Inf(-1))
	// The ends of no floats are infinities, which no part tells.
	if n == 0 {
		return Part{}
	}
	return Part{N: n, Pair: complex(sum, rest), Min: least, Max: greatest}
}

// addSum adds to a row's sum.
func addSum(g *gate.Gate, row []word.Word, n int64) {
	was := row[atLow].Add(g, n)
	if _, carry := bits.Add64(uint64(was), uint64(n), 0); carry != 0 {
		row[atHigh].Add(g, 1)
	}
}

// drainSum empties a row's sum, and tells it.
func drainSum(g *gate.Gate, row []word.Word) api.Int {
	low := row[atLow].Swap(g, 0)
	high := row[atHigh].Swap(g, 0)
	return api.Int{Hi: high, Lo: uint64(low)}
}

// addPair adds to a row's pair.
func addPair(g *gate.Gate, row []word.Word, x float64) {
	sum := loadFloat(g, &row[atSum])
	rest := loadFloat(g, &row[atRest])
	p := pair.Add(complex(sum, rest), x)
	storeFloat(g, &row[atSum], real(p))
	storeFloat(g, &row[atRest], imag(p))
}

// A float stands in a word as its bits.

func loadFloat(g *gate.Gate, w *word.Word) float64 {
	return math.Float64frombits(uint64(w.Load(g)))
}

func storeFloat(g *gate.Gate, w *word.Word, x float64) {
	w.Store(g, int64(math.Float64bits(x)))
}

func swapFloat(g *gate.Gate, w *word.Word, x float64) float64 {
	return math.Float64frombits(uint64(w.Swap(g, int64(math.Float64bits(x)))))
}
