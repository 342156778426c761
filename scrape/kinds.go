package scrape

import (
	"strings"

	"gnomon/api"
	"gnomon/bucket"
)

// value reads the lines of one series, of a family of that description.
func (r *reader) value(p int, d api.Desc) api.Value {
	switch d.Kind {
	case api.Counter:
		return r.counter(d)
	case api.Histogram:
		return r.histogram(p, d)
	}
	return r.summary(d)
}

func (r *reader) counter(d api.Desc) api.Value {
	series, number := r.numbered()
	d.Labels = r.labels(d.Name, series)
	return api.Value{Desc: d, Total: r.wide(number)}
}

func (r *reader) histogram(p int, d api.Desc) api.Value {
	ahead, high, number := r.more("le")
	d.Labels = r.others(d.Name, r.behind(ahead, d.Name+"_bucket{"))
	v := api.Value{Desc: d}
	for high != "+Inf" {
		r.count(p, &v, r.whole(high), r.whole(number))
		var again string
		again, high, number = r.more("le")
		r.must(again == ahead)
	}
	r.must(r.whole(number) == v.N)
	v.Total = r.wide(r.number(d.Name+"_sum", d.Labels))
	r.must(r.whole(r.number(d.Name+"_count", d.Labels)) == v.N)
	return v
}

// count lays one more count behind those of a histogram: of the bucket whose greatest value is high, up to which there are n values.
func (r *reader) count(p int, v *api.Value, high, n uint64) {
	// A number from 2^63 on is one below 0 here, and no bucket's greatest value.
	i, _ := bucket.Index(p, int64(high))
	greatest, _ := bucket.High(p, i)
	last := len(v.Counts) - 1
	// Buckets rise with their numbers: so it is as good to hold these against each other.
	rises := last < 0 || v.Counts[last].Index < i
	r.must(int64(high) == greatest && rises && n > v.N)
	v.Counts = append(v.Counts, api.Count{Index: i, N: n - v.N})
	v.N = n
}

func (r *reader) summary(d api.Desc) api.Value {
	v := api.Value{Desc: d}
	// A line of a quantile goes on with a brace behind the name.
	empty := strings.HasPrefix(r.rest, d.Name+"_sum")
	if !empty {
		r.quantiles(&v)
		v.Sum = r.float(r.number(d.Name+"_sum", v.Desc.Labels))
	} else {
		series, number := r.numbered()
		v.Desc.Labels = r.labels(d.Name, d.Name+r.behind(series, d.Name+"_sum"))
		v.Sum = r.float(number)
	}
	v.N = r.whole(r.number(d.Name+"_count", v.Desc.Labels))
	r.must(empty == (v.N == 0))
	return v
}

// quantiles reads the two lines of a summary that has values, which tell its labels, the least value and the greatest.
func (r *reader) quantiles(v *api.Value) {
	ahead, which, number := r.more("quantile")
	r.must(which == "0")
	v.Desc.Labels = r.others(v.Desc.Name, r.behind(ahead, v.Desc.Name+"{"))
	v.Min = r.float(number)
	again, which, number := r.more("quantile")
	r.must(again == ahead && which == "1")
	v.Max = r.float(number)
}
