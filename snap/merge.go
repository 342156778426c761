package snap

import (
	"math"

	"gnomon/api"
	"gnomon/ranks"
	"gnomon/real"
	"gnomon/wide"
)

// merge tells two lists, each in order, as one; of two that stand alike the one of a is ahead.
func merge[T any](a, b []T, compare func(x, y T) int) []T {
	var all []T
	for len(a) > 0 && len(b) > 0 {
		if compare(a[0], b[0]) <= 0 {
			all, a = append(all, a[0]), a[1:]
		} else {
			all, b = append(all, b[0]), b[1:]
		}
	}
	return append(append(all, a...), b...)
}

// mergeValues tells the values of two snapshots that may be as those of one.
func mergeValues(a, b []api.Value) ([]api.Value, api.Errno) {
	// Families stand together in it, and the two values of a series that both have.
	all := merge(a, b, compareSeries)
	series := 0
	for i, v := range all {
		if i > 0 && areUnlike(all[i-1], v) {
			return nil, api.ErrUnlike
		}
		if i == 0 || compareSeries(all[i-1], v) != 0 {
			series++
		}
	}
	if series > api.MaxInstruments {
		return nil, api.ErrMany
	}
	return join(all)
}

// join tells values in order with those of one series as one.
func join(all []api.Value) ([]api.Value, api.Errno) {
	var joined []api.Value
	for i, v := range all {
		if i == 0 || compareSeries(all[i-1], v) != 0 {
			joined = append(joined, copied(v))
			continue
		}
		last := &joined[len(joined)-1]
		both, e := joinTwo(*last, v)
		if e != api.OK {
			return nil, e
		}
		*last = both
	}
	return joined, api.OK
}

// joinTwo tells what two values of one series come to. What their kind doesn't name is zero in both, and so it is in what comes of them.
func joinTwo(a, b api.Value) (api.Value, api.Errno) {
	both := a
	both.Total = wide.Add(a.Total, b.Total)
	both.N = a.N + b.N
	// No Total is below 0: a sum that is was brought round.
	if wide.Sign(both.Total) < 0 || both.N > math.MaxInt64 {
		return api.Value{}, api.ErrMany
	}
	both.Counts = ranks.Merge(a.Counts, b.Counts)
	switch {
	case a.N == 0:
		both.Sum, both.Min, both.Max = b.Sum, b.Min, b.Max
	case b.N > 0:
		both.Sum = a.Sum + b.Sum
		both.Min = outer(a.Min, b.Min, -1)
		both.Max = outer(a.Max, b.Max, 1)
	}
	if !isFinite(both.Sum) {
		return api.Value{}, api.ErrRange
	}
	return both, api.OK
}

// outer tells, of two floats, the one that stands ahead, if side is -1, behind, if it is 1.
func outer(x, y float64, side int) float64 {
	if real.Compare(y, x) == side {
		return y
	}
	return x
}
