package table_test

import (
	"cmp"
	"math"
	"slices"
	"testing"

	"curfew/api"
	"curfew/cron"
	"curfew/job"
	"curfew/table"
)

const (
	hour     = 3600
	lastTime = 253402300799 // 9999-12-31 23:59:59
	noTime   = -1
	mostJobs = 12
	mostWait = 3 // in a queue
)

// mustOf is the job of a wish that has to say one.
func mustOf(t *testing.T, w api.Wish) api.Job {
	t.Helper()
	j, e := job.Of(w)
	if e != api.OK {
		t.Fatalf("Of(%+v): %d", w, e)
	}
	return j
}

// mustCron is the cron of a text that has to be one.
func mustCron(t *testing.T, text string) api.Cron {
	t.Helper()
	c, at, e := cron.Read(text)
	if e != api.OK {
		t.Fatalf("Read(%q): %d %d", text, at, e)
	}
	return c
}

// has tells whether at is a time of the job.
func has(j api.Job, at int64) bool {
	if j.Once {
		return at == j.At
	}
	return cron.At(j.Cron, at)
}

// mayRow tells whether the row may be, by the chapter's words.
func mayRow(r api.Row) bool {
	if job.Check(r.Job) != api.OK || r.Paused && r.Next != noTime || len(r.Queue) > mostWait {
		return false
	}
	var l []int64
	if r.Run.Num > 0 {
		if r.Run.Try < 0 || r.Run.Try > r.Job.Retries {
			return false
		}
		l = append(l, r.Run.Due)
	} else if r.Run.Due != 0 || r.Run.Try != 0 {
		return false
	}
	if len(r.Queue) > 0 && (r.Run.Num == 0 || r.Job.Overlap != 1) {
		return false
	}
	l = append(l, r.Queue...)
	if r.Next != noTime {
		l = append(l, r.Next)
	}
	for i, at := range l {
		if !has(r.Job, at) || i > 0 && at <= l[i-1] {
			return false
		}
	}
	return true
}

// mayTable tells whether the table may be, by the chapter's words.
func mayTable(l []api.Row) bool {
	if len(l) > mostJobs {
		return false
	}
	nums := map[uint64]int{}
	for i, r := range l {
		nums[r.Run.Num]++
		if !mayRow(r) || i > 0 && r.Job.Name <= l[i-1].Job.Name || r.Run.Num > 0 && nums[r.Run.Num] > 1 {
			return false
		}
	}
	return true
}

// equalRow tells whether both rows are the same.
func equalRow(a, b api.Row) bool {
	return a.Job == b.Job && a.Paused == b.Paused && a.Next == b.Next && a.Run == b.Run && slices.Equal(a.Queue, b.Queue)
}

// equal tells whether both lists are the same.
func equal(a, b []api.Row) bool { return slices.EqualFunc(a, b, equalRow) }

// deep is a list of new memory.
func deep(l []api.Row) []api.Row {
	l = slices.Clone(l)
	for i := range l {
		l[i].Queue = slices.Clone(l[i].Queue)
	}
	return l
}

// busy is a row of @hourly with all that a row may have.
func busy(t *testing.T, name uint32, num uint64) api.Row {
	t.Helper()
	j := mustOf(t, api.Wish{Name: name, Text: "@hourly", Overlap: 1, Retries: 2})
	return api.Row{Job: j, Next: 5 * hour, Run: api.Going{Num: num, Due: hour, Try: 1}, Queue: []int64{2 * hour, 3 * hour, 4 * hour}}
}

// quiet is a row of @hourly that waits for a time.
func quiet(t *testing.T, name uint32, next int64) api.Row {
	t.Helper()
	return api.Row{Job: mustOf(t, api.Wish{Name: name, Text: "@hourly"}), Next: next}
}

// full is a table of as many rows as may be, of the names 10, 20 and so on, busy ones and quiet ones in turn.
func full(t *testing.T) []api.Row {
	t.Helper()
	var l []api.Row
	for i := range mostJobs {
		name := uint32(10 * (i + 1))
		if i%2 == 0 {
			l = append(l, busy(t, name, uint64(100-i)))
		} else {
			l = append(l, quiet(t, name, int64(mostJobs-i)*hour))
		}
	}
	return l
}

// wrongTables are tables that may not be, each for one reason; the names 10 and 20 stand in all of them but the ones of one row.
func wrongTables(t *testing.T) map[string][]api.Row {
	t.Helper()
	change := func(do func(l []api.Row)) []api.Row {
		l := full(t)[:4]
		do(l)
		return l
	}
	return map[string][]api.Row{
		"zero":     {{}},
		"paused":   change(func(l []api.Row) { l[1].Paused = true }),
		"last row": change(func(l []api.Row) { l[3].Next++ }),
		"queue":    change(func(l []api.Row) { l[0].Queue[0]++ }),
		"order":    change(func(l []api.Row) { l[2], l[3] = l[3], l[2] }),
		"names":    change(func(l []api.Row) { l[2].Job.Name = 20 }),
		"nums":     change(func(l []api.Row) { l[2].Run.Num = l[0].Run.Num }),
		"never":    change(func(l []api.Row) { l[1].Job.Cron, l[1].Next = mustCron(t, "0 0 30 2 *"), noTime }),
		"long":     append(full(t), quiet(t, 130, hour)),
		"once":     {{Job: api.Job{Name: 10, Once: true, At: 50}, Next: 60}},
	}
}

// rowCase is what is changed of a busy row, and whether it may be then.
type rowCase struct {
	name string
	do   func(r *api.Row)
	may  bool
}

// holdRows holds CheckRow, and Check of that row alone, against what each case says.
func holdRows(t *testing.T, cases []rowCase) {
	t.Helper()
	for _, c := range cases {
		r, want := busy(t, 7, 9), api.ErrTable
		c.do(&r)
		if c.may {
			want = api.OK
		}
		if e := table.CheckRow(r); e != want {
			t.Errorf("CheckRow, %s: %d, want %d", c.name, e, want)
		}
		if e := table.Check([]api.Row{r}); e != want {
			t.Errorf("Check, %s: %d, want %d", c.name, e, want)
		}
		if mayRow(r) != c.may {
			t.Errorf("%s: the words say %v", c.name, !c.may)
		}
	}
}

// P11.1: the job, whether it is paused, and what is next.
func TestCheckRowNext(t *testing.T) {
	holdRows(t, []rowCase{
		{"as it is", func(r *api.Row) {}, true},
		{"zero", func(r *api.Row) { *r = api.Row{} }, false},
		{"just a job", func(r *api.Row) { *r = api.Row{Job: r.Job, Next: noTime} }, true},
		{"just a job, next at 0", func(r *api.Row) { *r = api.Row{Job: r.Job} }, true},
		{"no name", func(r *api.Row) { r.Job.Name = 0 }, false},
		{"a job's At", func(r *api.Row) { r.Job.At = 1 }, false},
		{"no cron", func(r *api.Row) { r.Job.Cron = api.Cron{} }, false},
		{"a cron that may not be", func(r *api.Row) { r.Job.Cron.Minute |= 1 << 60 }, false},
		{"no overlap", func(r *api.Row) { r.Job.Overlap = 2 }, false},
		{"no catch", func(r *api.Row) { r.Job.Catch = 3 }, false},
		{"too many retries", func(r *api.Row) { r.Job.Retries = 4 }, false},
		{"never", func(r *api.Row) { *r = api.Row{Job: r.Job, Next: noTime}; r.Job.Cron = mustCron(t, "0 0 30 2 *") }, false},
		{"paused", func(r *api.Row) { r.Paused, r.Next = true, noTime }, true},
		{"paused and nothing else", func(r *api.Row) { *r = api.Row{Job: r.Job, Paused: true, Next: noTime} }, true},
		{"paused, with a next", func(r *api.Row) { r.Paused = true }, false},
		{"paused, next at 0", func(r *api.Row) { *r = api.Row{Job: r.Job, Paused: true} }, false},
		{"paused, -2", func(r *api.Row) { r.Paused, r.Next = true, -2 }, false},
		{"no next", func(r *api.Row) { r.Next = noTime }, true},
		{"the last next", func(r *api.Row) { r.Next = lastTime - hour + 1 }, true},
		{"-2", func(r *api.Row) { r.Next = -2 }, false},
		{"an hour below 0", func(r *api.Row) { r.Next = -hour }, false},
		{"the least", func(r *api.Row) { r.Next = math.MinInt64 }, false},
		{"the greatest", func(r *api.Row) { r.Next = math.MaxInt64 }, false},
		{"behind all times", func(r *api.Row) { r.Next = lastTime + 1 }, false},
		{"no hour's", func(r *api.Row) { r.Next++ }, false},
		{"a minute's", func(r *api.Row) { r.Next += 60 }, false},
		{"the queue's last", func(r *api.Row) { r.Next = 4 * hour }, false},
		{"ahead of the queue's last", func(r *api.Row) { r.Next = 3 * hour }, false},
		{"what runs", func(r *api.Row) { r.Next = hour }, false},
		{"ahead of all", func(r *api.Row) { r.Next = 0 }, false},
		{"what runs, and no queue", func(r *api.Row) { r.Next, r.Queue = hour, nil }, false},
		{"ahead of what runs", func(r *api.Row) { r.Next, r.Queue = 0, nil }, false},
		{"behind what runs", func(r *api.Row) { r.Next, r.Queue = 2*hour, nil }, true},
	})
}

// P11.1: what runs.
func TestCheckRowRun(t *testing.T) {
	holdRows(t, []rowCase{
		{"none", func(r *api.Row) { r.Run, r.Queue = api.Going{}, nil }, true},
		{"none, and the queue waits", func(r *api.Row) { r.Run = api.Going{} }, false},
		{"none, and one waits", func(r *api.Row) { r.Run, r.Queue = api.Going{}, r.Queue[:1] }, false},
		{"no num", func(r *api.Row) { r.Run.Num = 0 }, false},
		{"no num, no queue", func(r *api.Row) { r.Run.Num, r.Queue = 0, nil }, false},
		{"just a due", func(r *api.Row) { r.Run, r.Queue = api.Going{Due: hour}, nil }, false},
		{"just a due below 0", func(r *api.Row) { r.Run, r.Queue = api.Going{Due: noTime}, nil }, false},
		{"just a try", func(r *api.Row) { r.Run, r.Queue = api.Going{Try: 1}, nil }, false},
		{"just a num", func(r *api.Row) { r.Run, r.Queue = api.Going{Num: 1}, nil }, true},
		{"the first num", func(r *api.Row) { r.Run.Num = 1 }, true},
		{"the last num", func(r *api.Row) { r.Run.Num = math.MaxUint64 }, true},
		{"the first try", func(r *api.Row) { r.Run.Try = 0 }, true},
		{"the last try", func(r *api.Row) { r.Run.Try = 2 }, true},
		{"a try below 0", func(r *api.Row) { r.Run.Try = -1 }, false},
		{"a try too many", func(r *api.Row) { r.Run.Try = 3 }, false},
		{"a try, and no retries", func(r *api.Row) { r.Job.Retries = 0 }, false},
		{"no try, and no retries", func(r *api.Row) { r.Job.Retries, r.Run.Try = 0, 0 }, true},
		{"the greatest try", func(r *api.Row) { r.Run.Try = math.MaxInt }, false},
		{"the least try", func(r *api.Row) { r.Run.Try = math.MinInt }, false},
		{"due at 0", func(r *api.Row) { r.Run.Due = 0 }, true},
		{"due at no hour", func(r *api.Row) { r.Run.Due++ }, false},
		{"due at no time", func(r *api.Row) { r.Run.Due = noTime }, false},
		{"due an hour below 0", func(r *api.Row) { r.Run.Due = -hour }, false},
		{"due at the least", func(r *api.Row) { r.Run.Due = math.MinInt64 }, false},
		{"due behind all times", func(r *api.Row) { r.Run.Due, r.Queue, r.Next = lastTime+1, nil, noTime }, false},
		{"due at last", func(r *api.Row) { r.Run.Due, r.Queue, r.Next = lastTime-hour+1, nil, noTime }, true},
		{"due as the queue's first", func(r *api.Row) { r.Run.Due = 2 * hour }, false},
		{"due behind it", func(r *api.Row) { r.Run.Due = 3 * hour }, false},
		{"due at 0, as the queue's first", func(r *api.Row) { r.Run.Due, r.Queue[0] = 0, 0 }, false},
		{"due at 0, as next", func(r *api.Row) { r.Run.Due, r.Queue, r.Next = 0, nil, 0 }, false},
	})
}

// P11.1: what waits.
func TestCheckRowQueue(t *testing.T) {
	holdRows(t, []rowCase{
		{"none", func(r *api.Row) { r.Queue = nil }, true},
		{"empty", func(r *api.Row) { r.Queue = []int64{} }, true},
		{"one", func(r *api.Row) { r.Queue = r.Queue[:1] }, true},
		{"not the first one", func(r *api.Row) { r.Queue = r.Queue[2:] }, true},
		{"one more than may be", func(r *api.Row) { r.Queue, r.Next = append(r.Queue, 5*hour), 6*hour }, false},
		{"one more than may be, no next", func(r *api.Row) { r.Queue, r.Next = append(r.Queue, 5*hour), noTime }, false},
		{"very many", func(r *api.Row) { r.Queue, r.Next = make([]int64, 1<<20), noTime }, false},
		{"skipped", func(r *api.Row) { r.Job.Overlap = 0 }, false},
		{"skipped, one", func(r *api.Row) { r.Job.Overlap, r.Queue = 0, r.Queue[:1] }, false},
		{"skipped, none", func(r *api.Row) { r.Job.Overlap, r.Queue = 0, nil }, true},
		{"paused", func(r *api.Row) { r.Paused, r.Next = true, noTime }, true},
		{"twice the same", func(r *api.Row) { r.Queue[1] = 2 * hour }, false},
		{"twice the last", func(r *api.Row) { r.Queue[1] = 4 * hour }, false},
		{"falling", func(r *api.Row) { slices.Reverse(r.Queue) }, false},
		{"what runs", func(r *api.Row) { r.Queue[0] = hour }, false},
		{"ahead of what runs", func(r *api.Row) { r.Queue[0] = 0 }, false},
		{"what is next", func(r *api.Row) { r.Queue[2] = 5 * hour }, false},
		{"behind what is next", func(r *api.Row) { r.Queue[2] = 6 * hour }, false},
		{"behind what would be next", func(r *api.Row) { r.Queue[2], r.Next = 6*hour, noTime }, true},
		{"no hour's, first", func(r *api.Row) { r.Queue[0]++ }, false},
		{"no hour's, last", func(r *api.Row) { r.Queue[2]-- }, false},
		{"no time", func(r *api.Row) { r.Queue = []int64{noTime} }, false},
		{"no time at last", func(r *api.Row) { r.Queue[2], r.Next = noTime, noTime }, false},
		{"behind all times", func(r *api.Row) { r.Queue[2], r.Next = lastTime+1, noTime }, false},
	})
}

// P11.1: a job that is Once has one time.
func TestCheckRowOnce(t *testing.T) {
	once := func(at, next int64, run api.Going, queue ...int64) func(r *api.Row) {
		return func(r *api.Row) {
			*r = api.Row{Job: api.Job{Name: 7, Once: true, At: at, Overlap: 1, Retries: 3}, Next: next, Run: run, Queue: queue}
		}
	}
	holdRows(t, []rowCase{
		{"next", once(90, 90, api.Going{}), true},
		{"next at 0", once(0, 0, api.Going{}), true},
		{"next at last", once(lastTime, lastTime, api.Going{}), true},
		{"no more", once(90, noTime, api.Going{}), true},
		{"too early", once(90, 89, api.Going{}), false},
		{"too late", once(90, 91, api.Going{}), false},
		{"at 0", once(90, 0, api.Going{}), false},
		{"it runs", once(90, noTime, api.Going{Num: 1, Due: 90, Try: 3}), true},
		{"it runs, of 0", once(0, noTime, api.Going{Num: 1}), true},
		{"another time runs", once(90, noTime, api.Going{Num: 1, Due: 91}), false},
		{"0 runs", once(90, noTime, api.Going{Num: 1}), false},
		{"it runs, and is next", once(90, 90, api.Going{Num: 1, Due: 90}), false},
		{"it runs, and waits", once(90, noTime, api.Going{Num: 1, Due: 90}, 90), false},
		{"it runs of 0, and waits", once(0, noTime, api.Going{Num: 1}, 0), false},
		{"it waits alone", once(90, noTime, api.Going{}, 90), false},
	})
}

// someRows are rows of some jobs with all sorts of parts, each with each other.
func someRows(t *testing.T) []api.Row {
	jobs := []api.Job{
		mustOf(t, api.Wish{Name: 7, Text: "@hourly"}),
		mustOf(t, api.Wish{Name: 7, Text: "@hourly", Overlap: 1, Retries: 1}),
		mustOf(t, api.Wish{Name: 7, Text: "0 0,2-5 * * *", Overlap: 1, Retries: 3}),
		mustOf(t, api.Wish{Name: 7, At: hour, Overlap: 1, Retries: 1}),
		mustOf(t, api.Wish{Name: 7, Overlap: 1}),
		{Name: 7, Cron: mustCron(t, "0 0 30 2 *"), Overlap: 1},
		{Name: 7, Once: true, At: -1, Overlap: 1},
	}
	nexts := []int64{-2, noTime, 0, hour, 3 * hour, 6 * hour, 6*hour + 1}
	runs := []api.Going{{}, {Due: hour}, {Try: 1}, {Num: 1}, {Num: 1, Due: hour}, {Num: 2, Due: hour, Try: 1}, {Num: 2, Due: 2 * hour, Try: 2}, {Num: 1, Due: hour, Try: -1}, {Num: 1, Due: -1}, {Num: 1, Due: hour + 60}}
	queues := [][]int64{nil, {}, {0}, {hour}, {2 * hour}, {2 * hour, 3 * hour}, {2 * hour, 3 * hour, 5 * hour}, {3 * hour, 2 * hour}, {2 * hour, 2 * hour}, {2 * hour, 3 * hour, 4 * hour, 5 * hour}, {3*hour + 60}}
	var l []api.Row
	for _, j := range jobs {
		for _, next := range nexts {
			for _, run := range runs {
				for _, queue := range queues {
					l = append(l, api.Row{Job: j, Next: next, Run: run, Queue: queue}, api.Row{Job: j, Paused: true, Next: next, Run: run, Queue: queue})
				}
			}
		}
	}
	return l
}

// P11.1: rows of all sorts.
func TestCheckRowMany(t *testing.T) {
	told := map[api.Errno]int{}
	for _, r := range someRows(t) {
		want := api.ErrTable
		if mayRow(r) {
			want = api.OK
		}
		if e := table.CheckRow(r); e != want {
			t.Fatalf("CheckRow(%+v): %d, want %d", r, e, want)
		}
		told[want]++
	}
	if told[api.OK] < 100 || told[api.ErrTable] < 100 {
		t.Errorf("not of all sorts: %v", told)
	}
}

// P11.1: tables by name.
func TestCheckNamed(t *testing.T) {
	l := full(t)
	none := slices.Clone(l)
	for i := range none { // nothing runs: 0 is no launch's number
		none[i].Run, none[i].Queue = api.Going{}, nil
	}
	for name, q := range map[string][]api.Row{"nil": nil, "empty": {}, "one": l[:1], "two": l[:2], "some": {l[1], l[4], l[9]}, "full": l, "nothing runs": none, "names at the ends": {busy(t, 1, 2), busy(t, math.MaxUint32, 1)}} {
		if e := table.Check(q); e != api.OK {
			t.Errorf("Check, %s: %d", name, e)
		}
	}
	for name, q := range wrongTables(t) {
		if e := table.Check(q); e != api.ErrTable {
			t.Errorf("Check, %s: %d", name, e)
		}
		if mayTable(q) {
			t.Errorf("%s may be, by the words", name)
		}
	}
	for n := mostJobs + 1; n < 100000; n *= 5 { // too many, in order
		long := make([]api.Row, n)
		for i := range long {
			long[i] = l[1]
			long[i].Job.Name = uint32(i + 1)
		}
		if e := table.Check(long); e != api.ErrTable {
			t.Errorf("Check of %d: %d", n, e)
		}
	}
}

// P11.1: any two rows that stand as one another's neighbours, or farther apart, have to fit.
func TestCheckPairs(t *testing.T) {
	for a := range mostJobs {
		for b := range mostJobs {
			for _, do := range []func(l []api.Row){
				func(l []api.Row) {},
				func(l []api.Row) { l[a], l[b] = l[b], l[a] },
				func(l []api.Row) { l[a].Job.Name = l[b].Job.Name },
				func(l []api.Row) { l[a].Job.Name = l[b].Job.Name + 1 },
				func(l []api.Row) { l[a].Job.Name = l[b].Job.Name - 1 },
				func(l []api.Row) { l[a].Run.Num = l[b].Run.Num },
				func(l []api.Row) { l[a].Run, l[a].Queue = l[b].Run, l[b].Queue },
				func(l []api.Row) { l[a].Next = l[b].Next },
				func(l []api.Row) { l[a].Queue = l[b].Queue },
				func(l []api.Row) { l[a].Job.Retries = a - b },
				func(l []api.Row) { l[a], l[b].Next = l[b], noTime },
			} {
				l, want := full(t), api.ErrTable
				do(l)
				if mayTable(l) {
					want = api.OK
				}
				if e := table.Check(l); e != want {
					t.Fatalf("Check of %d and %d: %d, want %d: %+v", a, b, e, want, l)
				}
			}
		}
	}
}

// P11.1: what differs in any part is not the same.
func TestSame(t *testing.T) {
	changes := map[string]func(r *api.Row){
		"name":      func(r *api.Row) { r.Job.Name++ },
		"once":      func(r *api.Row) { r.Job.Once = !r.Job.Once },
		"cron":      func(r *api.Row) { r.Job.Cron.Weekday ^= 1 },
		"at":        func(r *api.Row) { r.Job.At++ },
		"overlap":   func(r *api.Row) { r.Job.Overlap++ },
		"catch":     func(r *api.Row) { r.Job.Catch++ },
		"retries":   func(r *api.Row) { r.Job.Retries++ },
		"paused":    func(r *api.Row) { r.Paused = !r.Paused },
		"next":      func(r *api.Row) { r.Next++ },
		"num":       func(r *api.Row) { r.Run.Num++ },
		"due":       func(r *api.Row) { r.Run.Due++ },
		"try":       func(r *api.Row) { r.Run.Try++ },
		"longer":    func(r *api.Row) { r.Queue = append(slices.Clone(r.Queue), 5*hour) },
		"gone":      func(r *api.Row) { r.Queue = nil },
		"zero":      func(r *api.Row) { *r = api.Row{} },
		"first one": func(r *api.Row) { r.Queue = append([]int64{0}, r.Queue...) },
	}
	l := full(t)
	for n := range len(l) + 1 {
		if !table.Same(l[:n], deep(l)[:n]) {
			t.Errorf("not the same as itself: %d rows", n)
		}
		for k := range n {
			if table.Same(l[:n], l[:k]) || table.Same(l[:k], l[:n]) {
				t.Errorf("%d rows are the same as %d", n, k)
			}
			for name, do := range changes {
				other := deep(l[:n])
				do(&other[k])
				if same := equal(l[:n], other); table.Same(l[:n], other) != same || table.Same(other, l[:n]) != same {
					t.Errorf("%d rows, %s of %d: want %v", n, name, k, same)
				}
			}
		}
	}
	for k := range 3 {
		other := deep(l)
		other[0].Queue[k]++
		if table.Same(l, other) {
			t.Errorf("another queue's %d is the same", k)
		}
	}
	reversed := deep(l)
	slices.Reverse(reversed)
	if table.Same(l, reversed) {
		t.Error("another order is the same")
	}
}

// P11.1: nil and empty lists are one; tables that may not be are the same by their parts, too.
func TestSameEdges(t *testing.T) {
	empty := quiet(t, 7, hour)
	empty.Queue = []int64{}
	for _, q := range []struct{ a, b []api.Row }{{nil, nil}, {nil, []api.Row{}}, {[]api.Row{}, nil}, {[]api.Row{quiet(t, 7, hour)}, []api.Row{empty}}, {[]api.Row{empty}, []api.Row{quiet(t, 7, hour)}}} {
		if !table.Same(q.a, q.b) {
			t.Errorf("not the same: %+v %+v", q.a, q.b)
		}
	}
	if table.Same(nil, []api.Row{{}}) || table.Same([]api.Row{{}}, nil) {
		t.Error("no row is the same as a zero one")
	}
	for name, l := range wrongTables(t) {
		if !table.Same(l, deep(l)) || table.Same(l, l[1:]) || table.Same(l, append(deep(l), api.Row{})) {
			t.Errorf("Same, %s", name)
		}
	}
}

// P11.2: each row by its name, and by what runs of it.
func TestFindRunning(t *testing.T) {
	l := full(t)
	for n := range len(l) + 1 {
		for i, want := range l {
			r, ok := table.Find(l[:n], want.Job.Name)
			if ok != (i < n) || ok && !equalRow(r, want) || !ok && !equalRow(r, api.Row{}) {
				t.Errorf("Find of %d in %d rows: %+v %v", want.Job.Name, n, r, ok)
			}
			r, ok = table.Running(l[:n], want.Run.Num)
			if there := i < n && want.Run.Num > 0; ok != there || ok && !equalRow(r, want) || !ok && !equalRow(r, api.Row{}) {
				t.Errorf("Running of %d in %d rows: %+v %v", want.Run.Num, n, r, ok)
			}
		}
		for _, name := range []uint32{0, 1, 9, 11, 15, 119, 121, 99, 100 + 1, math.MaxUint32} {
			if r, ok := table.Find(l[:n], name); ok || !equalRow(r, api.Row{}) {
				t.Errorf("Find of %d: %+v %v", name, r, ok)
			}
		}
		for _, num := range []uint64{0, 1, 10, 99, 101, 100 + 1<<32, math.MaxUint64} {
			if r, ok := table.Running(l[:n], num); ok || !equalRow(r, api.Row{}) {
				t.Errorf("Running of %d: %+v %v", num, r, ok)
			}
		}
	}
	last := []api.Row{busy(t, math.MaxUint32, math.MaxUint64)}
	if r, ok := table.Find(last, math.MaxUint32); !ok || !equalRow(r, last[0]) {
		t.Errorf("Find of the last name: %+v %v", r, ok)
	}
	if r, ok := table.Running(last, math.MaxUint64); !ok || !equalRow(r, last[0]) {
		t.Errorf("Running of the last num: %+v %v", r, ok)
	}
}

// P11.2: names as they stand, dues by time and then by name.
func TestNamesDues(t *testing.T) {
	at := func(name uint32, next int64) api.Row {
		return api.Row{Job: mustOf(t, api.Wish{Name: name, Text: "* * * * *"}), Next: next}
	}
	stopped := at(8, noTime)
	stopped.Paused = true
	for _, q := range []struct {
		l     []api.Row
		names []uint32
		dues  []api.Due
	}{
		{nil, nil, nil},
		{[]api.Row{}, nil, nil},
		{[]api.Row{at(7, 60)}, []uint32{7}, []api.Due{{At: 60, Num: 7}}},
		{[]api.Row{at(7, noTime)}, []uint32{7}, nil},
		{[]api.Row{at(7, 0), stopped}, []uint32{7, 8}, []api.Due{{Num: 7}}},
		{[]api.Row{at(1, 120), at(2, 60)}, []uint32{1, 2}, []api.Due{{At: 60, Num: 2}, {At: 120, Num: 1}}},
		{[]api.Row{at(1, 120), at(2, 60), at(3, 120), at(9, 60)}, []uint32{1, 2, 3, 9}, []api.Due{{At: 60, Num: 2}, {At: 60, Num: 9}, {At: 120, Num: 1}, {At: 120, Num: 3}}},
		{[]api.Row{at(3, 60), stopped, at(math.MaxUint32, 0)}, []uint32{3, 8, math.MaxUint32}, []api.Due{{At: 0, Num: math.MaxUint32}, {At: 60, Num: 3}}},
		{[]api.Row{at(5, lastTime-59), busy(t, 6, 1), at(9, noTime)}, []uint32{5, 6, 9}, []api.Due{{At: 5 * hour, Num: 6}, {At: lastTime - 59, Num: 5}}},
	} {
		if got := table.Names(q.l); !slices.Equal(got, q.names) {
			t.Errorf("Names: %v, want %v", got, q.names)
		}
		if got := table.Dues(q.l); !slices.Equal(got, q.dues) {
			t.Errorf("Dues: %v, want %v", got, q.dues)
		}
	}
}

// P11.2: dues of full tables, however their times stand to each other.
func TestDuesOrder(t *testing.T) {
	for step := range 50 {
		l := full(t)
		var want []api.Due
		for i := range l {
			l[i].Next = int64((i*step)%7+5) * hour
			if (i+step)%5 == 0 {
				l[i].Next = noTime
				continue
			}
			want = append(want, api.Due{At: l[i].Next, Num: uint64(10 * (i + 1))})
		}
		slices.SortStableFunc(want, func(a, b api.Due) int { return cmp.Compare(a.At, b.At) })
		if got := table.Dues(l); !slices.Equal(got, want) {
			t.Errorf("Dues: %v, want %v", got, want)
		}
	}
}

// P11.2: of a table that may not be nothing is told.
func TestNothingOfWrong(t *testing.T) {
	for name, l := range wrongTables(t) {
		for _, r := range append(full(t), l...) {
			if r, ok := table.Find(l, r.Job.Name); ok || !equalRow(r, api.Row{}) {
				t.Errorf("Find, %s: %+v %v", name, r, ok)
			}
			if r, ok := table.Running(l, r.Run.Num); ok || !equalRow(r, api.Row{}) {
				t.Errorf("Running, %s: %+v %v", name, r, ok)
			}
		}
		if got := table.Names(l); len(got) != 0 {
			t.Errorf("Names, %s: %v", name, got)
		}
		if got := table.Dues(l); len(got) != 0 {
			t.Errorf("Dues, %s: %v", name, got)
		}
	}
}
