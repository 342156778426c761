package telem

import (
	"sync"

	"gnomon/api"
	"gnomon/recorder"
)

// Work is what a goroutine of a burst records.
type Work struct {
	ID   int
	Kind int
	N    []int64
	X    []float64
}

// job is a Work that was given a recorder, with its place in the list.
type job struct {
	at   int
	work Work
	by   *recorder.Recorder
}

// outcome is what became of the Work of a place.
type outcome struct {
	at int
	e  api.Errno
}

// Burst lets goroutines record at one time.
func (t *Telem) Burst(l []Work) []api.Errno {
	errnos := make([]api.Errno, len(l))
	var jobs []job
	for at, w := range l {
		x, e := t.give(w)
		if e != api.OK {
			errnos[at] = e
			continue
		}
		jobs = append(jobs, job{at: at, work: w, by: x})
	}
	for o := range t.doAll(jobs) {
		errnos[o.at] = o.e
	}
	for _, j := range jobs {
		t.registry.Release(nil, j.by)
	}
	return errnos
}

// give takes a recorder for a Work.
func (t *Telem) give(w Work) (*recorder.Recorder, api.Errno) {
	switch w.Kind {
	case api.Counter, api.Histogram, api.Summary:
		return t.registry.Recorder(nil)
	}
	return nil, api.ErrKind
}

// doAll does each job by a goroutine of its own, and tells what became of them when all have ended.
func (t *Telem) doAll(jobs []job) <-chan outcome {
	// There is room for all: so who has sent can end, though nobody receives yet.
	told := make(chan outcome, len(jobs))
	var wait sync.WaitGroup
	for _, j := range jobs {
		wait.Add(1)
		go func() {
			defer wait.Done()
			told <- outcome{at: j.at, e: t.do(j)}
		}()
	}
	wait.Wait()
	close(told)
	return told
}

// do records all of a job, and tells the first error.
func (t *Telem) do(j job) api.Errno {
	id := j.work.ID
	switch j.work.Kind {
	case api.Counter:
		return each(j.work.N, func(n int64) api.Errno { return t.registry.Add(nil, j.by, id, n) })
	case api.Histogram:
		return each(j.work.N, func(v int64) api.Errno { return t.registry.Observe(nil, j.by, id, v) })
	default:
		return each(j.work.X, func(x float64) api.Errno { return t.registry.Sample(nil, j.by, id, x) })
	}
}

// each records all numbers, whatever becomes of those ahead, and tells the first error.
func each[Number int64 | float64](l []Number, record func(Number) api.Errno) api.Errno {
	first := api.OK
	for _, x := range l {
		if e := record(x); first == api.OK {
			first = e
		}
	}
	return first
}
