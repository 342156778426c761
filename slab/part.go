package slab

import (
	"gnomon/api"
	"gnomon/pair"
	"gnomon/ranks"
	"gnomon/real"
	"gnomon/wide"
)

// Part is what came of some records.
type Part struct {
	Total  api.Int
	Counts []api.Count
	N      uint64
	Pair   pair.Pair
	Min    float64
	Max    float64
}

// Merge tells what two came to together.
func Merge(a, b Part) Part {
	return Part{
		Total:  wide.Add(a.Total, b.Total),
		Counts: ranks.Merge(a.Counts, b.Counts),
		N:      a.N + b.N,
		Pair:   pair.Merge(a.Pair, b.Pair),
		Min:    end(a, b, a.Min, b.Min, -1),
		Max:    end(a, b, a.Max, b.Max, 1),
	}
}

// Value tells what an instrument came to.
func Value(d api.Desc, p Part) api.Value {
	v := api.Value{Desc: d}
	// A slices.Clone of a list without elements would still point to what was handed in.
	v.Desc.Labels = append([]api.Label(nil), d.Labels...)
	switch d.Kind {
	case api.Counter:
		v.Total = p.Total
	case api.Histogram:
		v.Total, v.N = p.Total, p.N
		v.Counts = append([]api.Count(nil), p.Counts...)
	case api.Summary:
		v.N, v.Sum, v.Min, v.Max = p.N, pair.Total(p.Pair), p.Min, p.Max
	}
	return v
}

// end tells, of x of a and y of b, the one that lies at an end of the order of floats: the one that stands ahead, if side is -1, behind, if it is 1. A part of no values has none.
func end(a, b Part, x, y float64, side int) float64 {
	switch {
	case a.N == 0:
		return y
	case b.N == 0:
		return x
	case real.Compare(y, x) == side:
		return y
	}
	return x
}
