package table

import (
	"slices"

	"curfew/api"
	"curfew/job"
)

// deed is what is done to a row: it tells the rows that stand in its place then, one or none.
type deed func() []api.Row

// row is a row to which something is done, at a time.
type row struct {
	api.Row
	now int64
}

// removed is what stands there without it.
func (r row) removed() []api.Row {
	return nil
}

// itself is what stands there with it as it is.
func (r row) itself() []api.Row {
	return []api.Row{r.Row}
}

// paused is what stands there as it is paused.
func (r row) paused() []api.Row {
	r.Paused, r.Next = true, api.NoTime
	return r.itself()
}

// resumed is what stands there as it goes on, if it was paused.
func (r row) resumed() []api.Row {
	if r.Paused {
		r.Paused, r.Next = false, r.next()
	}
	return r.itself()
}

// next tells the job's first time behind now and all that the row has, or NoTime.
func (r row) next() int64 {
	t, due := job.First(r.Job, slices.Max(append(r.times(), r.now)))
	if !due {
		return api.NoTime
	}
	return t
}

// may tells whether the row may be.
func (r row) may() bool {
	switch {
	case job.Check(r.Job) != api.OK,
		r.Paused && r.Next != api.NoTime,
		r.Run.Num == 0 && r.runs(),
		r.Run.Try < 0 || r.Run.Try > r.Job.Retries,
		len(r.Queue) > r.room():
		return false
	}
	l := r.times()
	return rise(l...) && !slices.ContainsFunc(l, r.strange)
}

// runs tells whether something runs of it.
func (r row) runs() bool {
	return r.Run != (api.Going{})
}

// room tells how many times may wait.
func (r row) room() int {
	if !r.runs() || r.Job.Overlap == api.OverlapSkip {
		return 0
	}
	return api.MaxQueued
}

// times are all that the row has, in the order in which they have to rise.
func (r row) times() []int64 {
	var l []int64
	if r.runs() {
		l = append(l, r.Run.Due)
	}
	l = append(l, r.Queue...)
	if r.Next != api.NoTime {
		l = append(l, r.Next)
	}
	return l
}

// strange tells whether t is no time of the row's job.
func (r row) strange(t int64) bool {
	latest, ok := job.Latest(r.Job, t)
	return !ok || latest != t
}

// rise tells whether each time is greater than the one ahead of it.
func rise(times ...int64) bool {
	for i := range len(times) - 1 {
		if times[i] >= times[i+1] {
			return false
		}
	}
	return true
}
