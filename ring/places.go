package ring

import (
	"iter"

	"gnomon/api"
)

// all goes through what is there, from the oldest one on, round the end of the lists.
func (r *Ring) all() iter.Seq2[int64, api.Snapshot] {
	return func(yield func(int64, api.Snapshot) bool) {
		for i := range r.Len() {
			place := r.place(i)
			if !yield(r.times[place], r.snapshots[place]) {
				return
			}
		}
	}
}

// between goes through those of a window, from the oldest one on.
func (r *Ring) between(from, to int64) iter.Seq[api.Snapshot] {
	return func(yield func(api.Snapshot) bool) {
		for at, s := range r.all() {
			if at > from && at <= to && !yield(s) {
				return
			}
		}
	}
}

// place tells where the one stands that is the i-th, the oldest one being the 0th.
func (r *Ring) place(i int) int { return (r.oldest + i) % r.Len() }

// newest tells the last one's time.
func (r *Ring) newest() int64 { return r.times[r.place(r.Len()-1)] }

// lay keeps a snapshot, in the oldest one's place, if there is no room.
func (r *Ring) lay(at int64, s api.Snapshot) {
	if r.Len() < r.room {
		r.times = append(r.times, at)
		r.snapshots = append(r.snapshots, s)
		return
	}
	r.times[r.oldest], r.snapshots[r.oldest] = at, s
	r.oldest = r.place(1)
}

// hasUnlike tells whether there is one which a snapshot can't stand beside.
func (r *Ring) hasUnlike(s api.Snapshot) bool {
	named := families(s)
	for _, other := range r.all() {
		if other.Precision != s.Precision {
			return true
		}
		for _, v := range other.Values {
			if f, is := named[v.Desc.Name]; is && f != familyOf(v.Desc) {
				return true
			}
		}
	}
	return false
}

// family is what all instruments of one name have in common.
type family struct {
	kind int
	help string
}

// familyOf tells the family of an instrument.
func familyOf(d api.Desc) family { return family{kind: d.Kind, help: d.Help} }

// families tells those of a snapshot that may be, by their names.
func families(s api.Snapshot) map[string]family {
	named := map[string]family{}
	for _, v := range s.Values {
		named[v.Desc.Name] = familyOf(v.Desc)
	}
	return named
}

// copied tells a snapshot with lists of its own.
func copied(s api.Snapshot) api.Snapshot {
	// A slices.Clone of a list without elements would still point to what was handed in.
	s.Values = append([]api.Value(nil), s.Values...)
	for i := range s.Values {
		v := &s.Values[i]
		v.Desc.Labels = append([]api.Label(nil), v.Desc.Labels...)
		v.Counts = append([]api.Count(nil), v.Counts...)
	}
	return s
}
