package table_test

import (
	"math"
	"math/rand"
	"slices"
	"testing"

	"curfew/api"
	"curfew/job"
	"curfew/table"
)

// notTimes are numbers that are no times.
var notTimes = []int64{math.MinInt64, -hour, -2, -1, lastTime + 1, lastTime + hour, 1 << 40, math.MaxInt64}

// hold holds what a call answered against what it has to.
func hold(t *testing.T, what string, l []api.Row, e api.Errno, want []api.Row, err api.Errno) {
	t.Helper()
	if e != err || !equal(l, want) {
		t.Errorf("%s: %+v %d, want %+v %d", what, l, e, want, err)
	}
	if e == api.OK && table.Check(l) != api.OK {
		t.Errorf("%s: %+v may not be", what, l)
	}
}

// index tells the place of the row of that name, or -1.
func index(l []api.Row, name uint32) int {
	return slices.IndexFunc(l, func(r api.Row) bool { return r.Job.Name == name })
}

// addOf is what Add has to answer, by the chapter's words.
func addOf(l []api.Row, j api.Job, now int64) ([]api.Row, api.Errno) {
	first, due := job.First(j, now)
	switch {
	case !mayTable(l):
		return nil, api.ErrTable
	case now < 0 || now > lastTime:
		return nil, api.ErrArg
	case job.Check(j) != api.OK:
		return nil, job.Check(j)
	case index(l, j.Name) >= 0:
		return nil, api.ErrThere
	case len(l) == mostJobs:
		return nil, api.ErrFull
	case !due:
		return nil, api.ErrLate
	}
	l = append(deep(l), api.Row{Job: j, Next: first})
	slices.SortFunc(l, func(a, b api.Row) int {
		if a.Job.Name < b.Job.Name {
			return -1
		}
		return 1
	})
	return l, api.OK
}

// removeOf is what Remove has to answer.
func removeOf(l []api.Row, name uint32) ([]api.Row, api.Errno) {
	switch {
	case !mayTable(l):
		return nil, api.ErrTable
	case index(l, name) < 0:
		return nil, api.ErrNone
	}
	return slices.DeleteFunc(deep(l), func(r api.Row) bool { return r.Job.Name == name }), api.OK
}

// pauseOf is what Pause has to answer.
func pauseOf(l []api.Row, name uint32) ([]api.Row, api.Errno) {
	switch {
	case !mayTable(l):
		return nil, api.ErrTable
	case index(l, name) < 0:
		return nil, api.ErrNone
	}
	l = deep(l)
	l[index(l, name)].Paused = true
	l[index(l, name)].Next = noTime
	return l, api.OK
}

// resumeOf is what Resume has to answer.
func resumeOf(l []api.Row, name uint32, now int64) ([]api.Row, api.Errno) {
	switch {
	case !mayTable(l):
		return nil, api.ErrTable
	case now < 0 || now > lastTime:
		return nil, api.ErrArg
	case index(l, name) < 0:
		return nil, api.ErrNone
	}
	l = deep(l)
	r := &l[index(l, name)]
	if !r.Paused {
		return l, api.OK
	}
	if r.Run.Num > 0 {
		now = max(now, r.Run.Due)
	}
	for _, at := range r.Queue {
		now = max(now, at)
	}
	r.Paused, r.Next = false, noTime
	if next, ok := job.First(r.Job, now); ok {
		r.Next = next
	}
	return l, api.OK
}

// putOf is what Put has to answer.
func putOf(l []api.Row, r api.Row) ([]api.Row, api.Errno) {
	switch {
	case !mayTable(l) || !mayRow(r):
		return nil, api.ErrTable
	case index(l, r.Job.Name) < 0:
		return nil, api.ErrNone
	}
	l = deep(l)
	l[index(l, r.Job.Name)] = r
	if !mayTable(l) {
		return nil, api.ErrTable
	}
	return l, api.OK
}

// P11.3: what is added, by name: when it is due next, and where it stands.
func TestAddNamed(t *testing.T) {
	hourly, leap, once := mustOf(t, api.Wish{Name: 7, Text: "@hourly", Overlap: 1, Catch: 2, Retries: 3}), mustOf(t, api.Wish{Name: 7, Text: "0 0 29 2 *"}), mustOf(t, api.Wish{Name: 7, At: 50})
	for _, q := range []struct {
		j    api.Job
		now  int64
		next int64
		err  api.Errno
	}{
		{hourly, 0, hour, api.OK},
		{hourly, 100, hour, api.OK},
		{hourly, hour - 1, hour, api.OK},
		{hourly, hour, 2 * hour, api.OK},
		{hourly, lastTime - hour, lastTime - hour + 1, api.OK},
		{hourly, lastTime - hour + 1, 0, api.ErrLate},
		{hourly, lastTime, 0, api.ErrLate},
		{leap, 0, 789 * 86400, api.OK},
		{leap, 3981312000, 4233686400, api.OK},
		{leap, lastTime, 0, api.ErrLate},
		{once, 0, 50, api.OK},
		{once, 49, 50, api.OK},
		{once, 50, 0, api.ErrLate},
		{once, 51, 0, api.ErrLate},
		{once, 100, 0, api.ErrLate},
		{api.Job{Name: 7, Once: true}, 0, 0, api.ErrLate},
		{api.Job{Name: 7, Once: true, At: lastTime}, lastTime - 1, lastTime, api.OK},
		{api.Job{Name: 7, Once: true, At: lastTime}, 0, lastTime, api.OK},
		{api.Job{Name: 7, Once: true, At: lastTime}, lastTime, 0, api.ErrLate},
	} {
		for _, ahead := range [][]api.Row{nil, {}, {quiet(t, 6, hour)}, {busy(t, 8, 1)}, {busy(t, 6, 2), busy(t, 8, 1)}} {
			var want []api.Row
			if q.err == api.OK {
				want = slices.Clone(ahead)
				at := slices.IndexFunc(append(want, busy(t, 9, 9)), func(r api.Row) bool { return r.Job.Name > 7 })
				want = slices.Insert(want, at, api.Row{Job: q.j, Next: q.next})
			}
			l, e := table.Add(ahead, q.j, q.now)
			hold(t, "Add", l, e, want, q.err)
		}
	}
}

// P11.3: a table is filled in any order, and takes no more then.
func TestAddFills(t *testing.T) {
	r := rand.New(rand.NewSource(113))
	for range 30 {
		var l []api.Row
		for n, k := range r.Perm(mostJobs) {
			j, now := mustOf(t, api.Wish{Name: uint32(10 * (k + 1)), Text: "@hourly", Catch: k % 3}), r.Int63n(100)*hour
			want, err := addOf(l, j, now)
			got, e := table.Add(l, j, now)
			hold(t, "Add", got, e, want, err)
			if len(got) != n+1 || e != api.OK {
				t.Fatalf("%d rows behind Add of the %d-th: %d", len(got), n, e)
			}
			again, e := table.Add(got, j, now)
			hold(t, "Add again", again, e, nil, api.ErrThere)
			l = got
		}
		for _, name := range []uint32{1, 15, 119, 121, math.MaxUint32} {
			got, e := table.Add(l, mustOf(t, api.Wish{Name: name, Text: "@hourly"}), 0)
			hold(t, "Add of one more", got, e, nil, api.ErrFull)
		}
	}
}

// P11.3: whatever is wrong with each other, that is told which the chapter names first.
func TestAddWrong(t *testing.T) {
	tables := map[string][]api.Row{"none": nil, "some": full(t)[:4], "all but one": full(t)[1:], "full": full(t)}
	for name, l := range wrongTables(t) {
		tables[name] = l
	}
	jobs := []api.Job{{}, {Name: 20}, {Name: 20, Once: true, At: -1}, {Name: 20, Cron: mustCron(t, "0 0 30 2 *")}, {Cron: mustCron(t, "@hourly")}, {Name: 20, Cron: mustCron(t, "0 0 30 2 *"), Retries: 4}}
	for _, name := range []uint32{1, 10, 20, 25, 120, 125} {
		jobs = append(jobs, mustOf(t, api.Wish{Name: name, Text: "@hourly"}), mustOf(t, api.Wish{Name: name, At: 50}), mustOf(t, api.Wish{Name: name, At: lastTime}))
	}
	told := map[api.Errno]int{}
	for name, l := range tables {
		for _, j := range jobs {
			for _, now := range append([]int64{0, 49, 50, 100, lastTime}, notTimes...) {
				want, err := addOf(l, j, now)
				got, e := table.Add(l, j, now)
				hold(t, "Add, "+name, got, e, want, err)
				told[err]++
			}
		}
	}
	for _, e := range []api.Errno{api.OK, api.ErrTable, api.ErrArg, api.ErrJob, api.ErrNever, api.ErrThere, api.ErrFull, api.ErrLate} {
		if told[e] == 0 {
			t.Errorf("%d was never to be told", e)
		}
	}
}

// P11.4: each row of each table is removed, paused and resumed, and no other one.
func TestRemovePauseResume(t *testing.T) {
	l := full(t)
	for n := range len(l) + 1 {
		for _, name := range []uint32{0, 1, 10, 20, 30, 40, 45, 70, 80, 90, 110, 115, 120, 130, 1<<32 - 10, math.MaxUint32} {
			want, err := removeOf(l[:n], name)
			got, e := table.Remove(l[:n], name)
			hold(t, "Remove", got, e, want, err)

			want, err = pauseOf(l[:n], name)
			paused, e := table.Pause(l[:n], name)
			hold(t, "Pause", paused, e, want, err)
			if e == api.OK {
				again, e := table.Pause(paused, name)
				hold(t, "Pause again", again, e, paused, api.OK)
			}
			for _, now := range []int64{0, hour - 1, hour, 2 * hour, 4*hour - 1, 4 * hour, 9*hour + 5, lastTime - hour, lastTime} {
				want, err = resumeOf(l[:n], name, now)
				got, e = table.Resume(l[:n], name, now)
				hold(t, "Resume of what is not paused", got, e, want, err)
				want, err = resumeOf(paused, name, now)
				got, e = table.Resume(paused, name, now)
				hold(t, "Resume", got, e, want, err)
			}
		}
	}
}

// P11.4: when what is resumed is due next, by name.
func TestResumeNamed(t *testing.T) {
	hourly := mustOf(t, api.Wish{Name: 7, Text: "@hourly", Overlap: 1, Retries: 1})
	once := mustOf(t, api.Wish{Name: 7, At: 90, Overlap: 1})
	run := func(due int64) api.Going { return api.Going{Num: 3, Due: due} }
	for _, q := range []struct {
		r    api.Row
		now  int64
		next int64
	}{
		{api.Row{Job: hourly}, 0, hour},
		{api.Row{Job: hourly}, 2*hour - 1, 2 * hour},
		{api.Row{Job: hourly}, 2 * hour, 3 * hour},
		{api.Row{Job: hourly}, lastTime - hour, lastTime - hour + 1},
		{api.Row{Job: hourly}, lastTime - hour + 1, noTime},
		{api.Row{Job: hourly}, lastTime, noTime},
		// Behind what runs, and what waits, too, where these are later.
		{api.Row{Job: hourly, Run: run(0)}, 0, hour},
		{api.Row{Job: hourly, Run: run(5 * hour)}, 0, 6 * hour},
		{api.Row{Job: hourly, Run: run(5 * hour)}, 5*hour - 1, 6 * hour},
		{api.Row{Job: hourly, Run: run(5 * hour)}, 6*hour - 1, 6 * hour},
		{api.Row{Job: hourly, Run: run(5 * hour)}, 6 * hour, 7 * hour},
		{api.Row{Job: hourly, Run: run(hour), Queue: []int64{2 * hour}}, 0, 3 * hour},
		{api.Row{Job: hourly, Run: run(hour), Queue: []int64{2 * hour, 4 * hour, 9 * hour}}, 3 * hour, 10 * hour},
		{api.Row{Job: hourly, Run: run(hour), Queue: []int64{2 * hour, 4 * hour, 9 * hour}}, 10 * hour, 11 * hour},
		{api.Row{Job: hourly, Run: run(hour), Queue: []int64{lastTime - hour + 1}}, 0, noTime},
		{api.Row{Job: hourly, Run: run(lastTime - hour + 1)}, 0, noTime},
		{api.Row{Job: once}, 0, 90},
		{api.Row{Job: once}, 89, 90},
		{api.Row{Job: once}, 90, noTime},
		{api.Row{Job: once}, 91, noTime},
		{api.Row{Job: once, Run: run(90)}, 0, noTime},
		{api.Row{Job: once, Run: run(90)}, 90, noTime},
	} {
		q.r.Paused, q.r.Next = true, noTime
		want := q.r
		want.Paused, want.Next = false, q.next
		got, e := table.Resume([]api.Row{q.r}, 7, q.now)
		hold(t, "Resume", got, e, []api.Row{want}, api.OK)
		again, e := table.Resume(got, 7, lastTime)
		hold(t, "Resume again", again, e, got, api.OK)
	}
	// What is not paused stays as it is, also without a next, or with one that has gone by.
	for _, next := range []int64{noTime, 0, hour} {
		l := []api.Row{{Job: hourly, Next: next}}
		got, e := table.Resume(l, 7, 5*hour)
		hold(t, "Resume of what is not paused", got, e, l, api.OK)
	}
}

// P11.4: what is wrong, in its order.
func TestRemovePauseResumeWrong(t *testing.T) {
	for name, l := range wrongTables(t) {
		for _, row := range []uint32{0, 10, 20, 77} {
			got, e := table.Remove(l, row)
			hold(t, "Remove, "+name, got, e, nil, api.ErrTable)
			got, e = table.Pause(l, row)
			hold(t, "Pause, "+name, got, e, nil, api.ErrTable)
			for _, now := range append([]int64{0, lastTime}, notTimes...) {
				got, e = table.Resume(l, row, now)
				hold(t, "Resume, "+name, got, e, nil, api.ErrTable)
			}
		}
	}
	paused, _ := table.Pause(full(t)[:3], 20)
	for _, l := range [][]api.Row{nil, full(t), paused} {
		for _, now := range notTimes {
			for _, name := range []uint32{0, 10, 20, 77} {
				got, e := table.Resume(l, name, now)
				hold(t, "Resume at no time", got, e, nil, api.ErrArg)
			}
		}
		got, e := table.Resume(l, 77, 0)
		hold(t, "Resume of none", got, e, nil, api.ErrNone)
	}
}

// P11.5: each row of each table is put anew, by what may be and what may not.
func TestPut(t *testing.T) {
	l := full(t)
	told := map[api.Errno]int{}
	for n := range len(l) + 1 {
		for _, name := range []uint32{0, 1, 10, 20, 25, 60, 110, 120, 121, math.MaxUint32} {
			stopped := busy(t, max(name, 1), 7)
			stopped.Paused, stopped.Next = true, noTime
			wrong := quiet(t, max(name, 1), hour+1)
			for _, r := range []api.Row{{}, wrong, stopped, quiet(t, max(name, 1), 8*hour), busy(t, max(name, 1), 7), busy(t, max(name, 1), 100), busy(t, max(name, 1), 94), {Job: stopped.Job, Next: noTime}, {Job: api.Job{Name: name, Once: true, At: 5}, Next: 5}, {Job: api.Job{Name: name, Once: true, At: 5}, Run: api.Going{Num: 90, Due: 5}, Next: noTime}} {
				want, err := putOf(l[:n], r)
				got, e := table.Put(l[:n], r)
				hold(t, "Put", got, e, want, err)
				told[err]++
			}
		}
	}
	if told[api.OK] == 0 || told[api.ErrTable] == 0 || told[api.ErrNone] == 0 || len(told) != 3 {
		t.Errorf("not of all sorts: %v", told)
	}
}

// P11.5: what is wrong, by name, and in its order.
func TestPutWrong(t *testing.T) {
	l := []api.Row{busy(t, 10, 5), quiet(t, 20, hour), busy(t, 30, 6)}
	bad := func(name uint32) api.Row {
		r := busy(t, name, 9)
		r.Queue[1]++
		return r
	}
	for _, q := range []struct {
		what string
		l    []api.Row
		r    api.Row
		err  api.Errno
	}{
		{"the row may not be", l, bad(20), api.ErrTable},
		{"the row may not be, and there is none", l, bad(25), api.ErrTable},
		{"the row may not be, of no table", nil, bad(25), api.ErrTable},
		{"zero", nil, api.Row{}, api.ErrTable},
		{"none of no table", nil, busy(t, 20, 9), api.ErrNone},
		{"none", l, busy(t, 25, 9), api.ErrNone},
		{"none, and what runs elsewhere", l, busy(t, 25, 5), api.ErrNone},
		{"what runs ahead", l, busy(t, 20, 5), api.ErrTable},
		{"what runs behind", l, busy(t, 20, 6), api.ErrTable},
		{"what runs behind of the first", l, busy(t, 10, 6), api.ErrTable},
		{"what runs ahead of the last", l, busy(t, 30, 5), api.ErrTable},
		{"the same", l, busy(t, 10, 5), api.OK},
		{"another num", l, busy(t, 10, 7), api.OK},
		{"nothing runs", l, quiet(t, 30, 0), api.OK},
	} {
		want, _ := putOf(q.l, q.r)
		got, e := table.Put(q.l, q.r)
		hold(t, "Put, "+q.what, got, e, want, q.err)
	}
	for name, l := range wrongTables(t) {
		for _, r := range []api.Row{{}, bad(10), busy(t, 10, 9), busy(t, 20, 9), quiet(t, 20, hour), busy(t, 77, 9)} {
			got, e := table.Put(l, r)
			hold(t, "Put, "+name, got, e, nil, api.ErrTable)
		}
	}
}

// P11.6: what is added, and removed again, was never there, whatever was done to it.
func TestNeverThere(t *testing.T) {
	l := full(t)
	for n := range len(l) {
		for _, name := range []uint32{1, 15, 25, 55, 111, 125} {
			more, e := table.Add(l[:n], mustOf(t, api.Wish{Name: name, Text: "*/5 * * * *"}), 1000)
			if e != api.OK || len(more) != n+1 || len(table.Dues(more)) != len(table.Dues(l[:n]))+1 {
				t.Fatalf("Add of %d to %d rows: %d", name, n, e)
			}
			paused, _ := table.Pause(more, name)
			resumed, _ := table.Resume(paused, name, 5000)
			r, _ := table.Find(resumed, name)
			r.Run = api.Going{Num: 7, Due: 600}
			put, _ := table.Put(resumed, r)
			for _, with := range [][]api.Row{more, paused, resumed, put} {
				without, e := table.Remove(with, name)
				hold(t, "Remove of what was added", without, e, l[:n], api.OK)
				if !table.Same(without, l[:n]) {
					t.Errorf("%d was there", name)
				}
			}
		}
	}
}

// someJob is a job of that name.
func someJob(t *testing.T, r *rand.Rand, name uint32) api.Job {
	texts := []string{"@hourly", "*/7 * * * *", "0,30 * * * *", "0 9 * * 1-5", ""}
	w := api.Wish{Name: name, Text: texts[r.Intn(len(texts))], Overlap: r.Intn(2), Catch: r.Intn(3), Retries: r.Intn(4)}
	if w.Text == "" {
		w.At = r.Int63n(40 * hour)
	}
	return mustOf(t, w)
}

// going is what may become of a row, or what may not, if it is launched with that num.
func going(r *rand.Rand, row api.Row, num uint64) api.Row {
	row.Queue = slices.Clone(row.Queue)
	switch next := row.Next; r.Intn(5) {
	case 0:
		row.Run, row.Queue = api.Going{}, nil
	case 1:
		row.Run.Try++
	case 2:
		row.Queue = append(row.Queue, next)
		row.Next, _ = job.First(row.Job, next)
	default:
		row.Run = api.Going{Num: num, Due: next}
		row.Queue, row.Next = nil, noTime
		if after, ok := job.First(row.Job, next); ok && !row.Paused {
			row.Next = after
		}
	}
	return row
}

// P11.3 to P11.6: tables that go on by all that may be done, held against the chapter's words; of what is done to one job nothing is seen in another one's row, and what comes may be.
func TestWalks(t *testing.T) {
	r := rand.New(rand.NewSource(114))
	var l []api.Row
	told := map[api.Errno]int{}
	for step := range 8000 {
		name, now := uint32(r.Intn(15)), r.Int63n(50*hour)-hour
		var got, want []api.Row
		var e, err api.Errno
		switch r.Intn(8) {
		case 0, 1, 2:
			j := someJob(t, r, name+1)
			want, err = addOf(l, j, now)
			got, e = table.Add(l, j, now)
			name++
		case 3:
			want, err = removeOf(l, name)
			got, e = table.Remove(l, name)
		case 4:
			want, err = pauseOf(l, name)
			got, e = table.Pause(l, name)
		case 5:
			want, err = resumeOf(l, name, now)
			got, e = table.Resume(l, name, now)
		default:
			row, _ := table.Find(l, name)
			row = going(r, row, uint64(r.Intn(20)))
			want, err = putOf(l, row)
			got, e = table.Put(l, row)
		}
		hold(t, "a step", got, e, want, err)
		told[err]++
		if e != api.OK {
			continue
		}
		itself := func(r api.Row) bool { return r.Job.Name == name }
		if !equal(slices.DeleteFunc(deep(l), itself), slices.DeleteFunc(deep(got), itself)) {
			t.Errorf("step %d of %d: others changed: %+v, of %+v", step, name, got, l)
		}
		holdDues(t, got)
		if t.Failed() {
			return
		}
		l = got
	}
	for _, e := range []api.Errno{api.OK, api.ErrTable, api.ErrArg, api.ErrNone, api.ErrThere, api.ErrFull, api.ErrLate} {
		if told[e] == 0 {
			t.Errorf("%d was never to be told: %v", e, told)
		}
	}
}

// holdDues holds that dues are as many as rows with a next, each of them its job's, in order.
func holdDues(t *testing.T, l []api.Row) {
	t.Helper()
	dues, n := table.Dues(l), 0
	for _, r := range l {
		if r.Next != noTime {
			n++
		}
	}
	for i, d := range dues {
		r, ok := table.Find(l, uint32(d.Num))
		if !ok || r.Next != d.At || !has(r.Job, d.At) || i > 0 && (dues[i-1].At > d.At || dues[i-1].At == d.At && dues[i-1].Num >= d.Num) {
			t.Errorf("Dues: %v of %+v", dues, l)
		}
	}
	if len(dues) != n || len(table.Names(l)) != len(l) {
		t.Errorf("%d dues, %d rows with a next", len(dues), n)
	}
}

// roomy is the list with room behind its end and its queues' ends, which is not the list's; rows beyond n stand in that room.
func roomy(l []api.Row, n int) []api.Row {
	all := deep(l)
	for i := range all {
		q := append(all[i].Queue, -7, -8, -9)
		all[i].Queue = q[:len(q)-3]
	}
	return all[:n]
}

// whole is the list and all its room, and that of its queues.
func whole(l []api.Row) []api.Row {
	l = slices.Clone(l[:cap(l)])
	for i := range l {
		l[i].Queue = slices.Clone(l[i].Queue[:cap(l[i].Queue)])
	}
	return l
}

// answers are what all calls answer of the list that is handed in.
func answers(l []api.Row, r api.Row, j api.Job) [][]api.Row {
	out := [][]api.Row{}
	take := func(l []api.Row, e api.Errno) { out = append(out, l) }
	take(table.Add(l, j, 100))
	for _, name := range []uint32{10, 20, 30, 50, 77} {
		take(table.Remove(l, name))
		take(table.Pause(l, name))
		take(table.Resume(l, name, 100))
		found, _ := table.Find(l, name)
		running, _ := table.Running(l, found.Run.Num)
		take([]api.Row{found}, api.OK)
		take([]api.Row{running}, api.OK)
	}
	take(table.Put(l, r))
	table.Names(l)
	table.Dues(l)
	table.Check(l)
	table.CheckRow(r)
	table.Same(l, l)
	return out
}

// R3: what is handed in stays as it is, with the room behind; what is answered is new memory, and no two queues share any.
func TestMemory(t *testing.T) {
	j := mustOf(t, api.Wish{Name: 25, Text: "@hourly"})
	for n := range 7 {
		l := roomy(full(t), n)
		r := roomy([]api.Row{busy(t, 30, 500)}, 1)
		kept, keptRow := whole(l), whole(r)
		got, again := answers(l, r[0], j), answers(l, r[0], j)
		if !equal(whole(l), kept) || !equal(whole(r), keptRow) {
			t.Fatalf("%d rows: what was handed in was changed: %+v, of %+v", n, whole(l), kept)
		}
		for i := range got {
			spoil(t, got[i])
		}
		if !equal(whole(l), kept) || !equal(whole(r), keptRow) {
			t.Fatalf("%d rows: an answer shares what was handed in", n)
		}
		for i, third := range answers(l, r[0], j) {
			if !equal(again[i], third) {
				t.Fatalf("%d rows: answers share memory: %+v, want %+v", n, again[i], third)
			}
		}
		before := make([][]api.Row, len(again))
		for i := range again {
			before[i] = deep(again[i])
		}
		spoil(t, l)
		spoil(t, r)
		for i := range again {
			if !equal(again[i], before[i]) {
				t.Fatalf("%d rows: what was handed in is kept in an answer", n)
			}
		}
	}
}

// spoil writes over all of a list and its queues, one by one, and holds that no other queue changes.
func spoil(t *testing.T, l []api.Row) {
	t.Helper()
	l = l[:cap(l)]
	for i := range l {
		others := deep(l)
		queue := l[i].Queue[:cap(l[i].Queue)]
		for k := range queue {
			queue[k] = -5
		}
		l[i].Queue = others[i].Queue
		if !equal(l, others) {
			t.Fatalf("two queues share memory: %+v, want %+v", l, others)
		}
	}
	clear(l)
}

// P11.2, R3: names and dues are new memory each time.
func TestListsNew(t *testing.T) {
	l := full(t)
	names, dues := table.Names(l), table.Dues(l)
	clear(names[:cap(names)])
	clear(dues[:cap(dues)])
	if again := table.Names(l); len(again) != len(l) || again[0] != 10 {
		t.Errorf("Names: %v", again)
	}
	if again := table.Dues(l); len(again) != len(l) || again[0].Num == 0 {
		t.Errorf("Dues: %v", again)
	}
}

// anything is a row of which nothing is sure.
func anything(r *rand.Rand) api.Row {
	n := func() int64 { return int64(r.Uint64()) >> uint(r.Intn(64)) }
	row := api.Row{Paused: r.Intn(2) == 0, Next: n(), Run: api.Going{Num: r.Uint64() >> uint(r.Intn(64)), Due: n(), Try: int(n())}}
	row.Job = api.Job{Name: r.Uint32() >> uint(r.Intn(32)), Once: r.Intn(2) == 0, At: n(), Overlap: int(n()), Catch: int(n()), Retries: int(n())}
	if r.Intn(2) == 0 {
		row.Job.Cron = api.Cron{Minute: api.Mask(n()), Hour: api.Mask(n()), Day: api.Mask(n()), Month: api.Mask(n()), Weekday: api.Mask(n())}
	}
	for range r.Intn(6) {
		row.Queue = append(row.Queue, n())
	}
	return row
}

// R1: all arguments, whatever they are.
func TestAnything(t *testing.T) {
	r := rand.New(rand.NewSource(115))
	for range 20000 {
		var l []api.Row
		if r.Intn(2) == 0 {
			l = full(t)[:r.Intn(mostJobs)]
		}
		for range r.Intn(3) {
			if row := anything(r); r.Intn(2) == 0 {
				l = append(l, row)
			} else if len(l) > 0 {
				at := r.Intn(len(l))
				row.Job = l[at].Job
				l[at] = row
			}
		}
		row, now := anything(r), int64(r.Uint64())>>uint(r.Intn(64))
		name := []uint32{10, 20, 30, r.Uint32()}[r.Intn(4)]
		if r.Intn(2) == 0 {
			row.Job = quiet(t, 10, 0).Job
		}
		want, err := addOf(l, row.Job, now)
		got, e := table.Add(l, row.Job, now)
		hold(t, "Add", got, e, want, err)
		want, err = removeOf(l, name)
		got, e = table.Remove(l, name)
		hold(t, "Remove", got, e, want, err)
		want, err = pauseOf(l, name)
		got, e = table.Pause(l, name)
		hold(t, "Pause", got, e, want, err)
		want, err = resumeOf(l, name, now)
		got, e = table.Resume(l, name, now)
		hold(t, "Resume", got, e, want, err)
		want, err = putOf(l, row)
		got, e = table.Put(l, row)
		hold(t, "Put", got, e, want, err)
		if _, ok := table.Find(l, name); ok != (mayTable(l) && index(l, name) >= 0) || (table.CheckRow(row) == api.OK) != mayRow(row) || (table.Check(l) == api.OK) != mayTable(l) {
			t.Errorf("Find, CheckRow or Check of %+v, %+v", l, row)
		}
		if t.Failed() {
			return
		}
	}
}
