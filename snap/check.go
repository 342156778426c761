package snap

import (
	"math"

	"gnomon/api"
	"gnomon/bucket"
	"gnomon/label"
	"gnomon/ranks"
	"gnomon/real"
	"gnomon/wide"
)

// checkValue tells what is wrong with a value of a snapshot of the precision p, behind the values ahead of it.
func checkValue(p int, ahead []api.Value, v api.Value) api.Errno {
	if e := label.Check(v.Desc); e != api.OK {
		return e
	}
	if !holds(p, v) {
		return api.ErrRange
	}
	if len(ahead) == 0 {
		return api.OK
	}
	return checkPlace(ahead[len(ahead)-1], v)
}

// checkPlace tells what is wrong with a value behind the last one ahead of it.
func checkPlace(last, v api.Value) api.Errno {
	switch order := compareSeries(last, v); {
	case order == 0:
		return api.ErrTwice
	case order > 0:
		return api.ErrOrder
	case areUnlike(last, v):
		return api.ErrUnlike
	}
	return api.OK
}

// areUnlike tells whether two values have one name, and yet can't be of one family.
func areUnlike(a, b api.Value) bool {
	return a.Desc.Name == b.Desc.Name && (a.Desc.Kind != b.Desc.Kind || a.Desc.Help != b.Desc.Help)
}

// holds tells whether a value, whose description may be, holds what it may.
func holds(p int, v api.Value) bool {
	switch v.Desc.Kind {
	case api.Counter:
		return wide.Sign(v.Total) >= 0 && len(v.Counts) == 0 && v.N == 0 && hasNoFloats(v)
	case api.Histogram:
		return holdsCounts(p, v) && hasNoFloats(v)
	}
	return v.Total == api.Int{} && len(v.Counts) == 0 && holdsFloats(v)
}

// hasNoFloats tells whether all floats of a value are 0, without a sign.
func hasNoFloats(v api.Value) bool { return sameFloats(v, api.Value{}) }

// holdsCounts tells whether a histogram's counts may be, and whether as many values as they say can come to its total.
func holdsCounts(p int, v api.Value) bool {
	if ranks.May(p, v.Counts) != api.OK || v.N != ranks.Total(v.Counts) {
		return false
	}
	least, greatest := api.Int{}, api.Int{}
	for _, c := range v.Counts {
		low, _ := bucket.Low(p, c.Index)
		high, _ := bucket.High(p, c.Index)
		// All values are below 2^63, and there are fewer than 2^63 of them: so neither sum comes to 2^126.
		least = wide.Add(least, times(low, c.N))
		greatest = wide.Add(greatest, times(high, c.N))
	}
	return wide.Compare(least, v.Total) <= 0 && wide.Compare(v.Total, greatest) <= 0
}

// times tells what n values come to that are all v.
func times(v int64, n uint64) api.Int {
	hi, lo := wide.Mul(uint64(v), n)
	return api.Int{Hi: int64(hi), Lo: lo}
}

// holdsFloats tells whether a summary holds what as many values as it says can come to.
func holdsFloats(v api.Value) bool {
	switch {
	case v.N > math.MaxInt64:
		return false
	case v.N == 0:
		return hasNoFloats(v)
	}
	return isFinite(v.Sum) && isFinite(v.Min) && isFinite(v.Max) && real.Compare(v.Min, v.Max) <= 0
}

// isFinite tells whether a float is neither NaN nor an infinity.
func isFinite(x float64) bool { return math.Abs(x) <= math.MaxFloat64 }
