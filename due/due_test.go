package due_test

import (
	"math"
	"math/rand"
	"slices"
	"testing"

	"curfew/api"
	"curfew/cron"
	"curfew/due"
	"curfew/job"
)

const (
	minute   = 60
	hour     = 3600
	day      = 86400
	lastTime = 253402300799 // 9999-12-31 23:59:59
	noTime   = -1
	mostWait = 3  // in a queue
	mostTold = 4  // of CatchAll
	age      = 59 // of CatchNone
)

// The numbers of Overlap and Catch.
const (
	skip, queue     = 0, 1
	none, last, all = 0, 1, 2
)

// mustOf is the job of a wish that has to say one.
func mustOf(t *testing.T, w api.Wish) api.Job {
	t.Helper()
	j, e := job.Of(w)
	if e != api.OK {
		t.Fatalf("Of(%+v): %d", w, e)
	}
	return j
}

// hourly is a row of @hourly that waits for a time.
func hourly(t *testing.T, overlap, catch, retries int, next int64) api.Row {
	t.Helper()
	return api.Row{Job: mustOf(t, api.Wish{Name: 7, Text: "@hourly", Overlap: overlap, Catch: catch, Retries: retries}), Next: next}
}

// once is a row of a job that is due once.
func once(t *testing.T, catch int, at int64) api.Row {
	t.Helper()
	return api.Row{Job: mustOf(t, api.Wish{Name: 8, At: at, Catch: catch}), Next: at}
}

// with is the row with what runs, and what waits.
func with(r api.Row, run api.Going, waits ...int64) api.Row {
	r.Run, r.Queue = run, waits
	return r
}

// has tells whether at is a time of the job.
func has(j api.Job, at int64) bool {
	if j.Once {
		return at == j.At
	}
	return cron.At(j.Cron, at)
}

// mayRow tells whether the row may be, by the words of table's chapter.
func mayRow(r api.Row) bool {
	if job.Check(r.Job) != api.OK || r.Paused && r.Next != noTime || len(r.Queue) > mostWait {
		return false
	}
	var l []int64
	if r.Run.Num > 0 {
		if r.Run.Try < 0 || r.Run.Try > r.Job.Retries {
			return false
		}
		l = append(l, r.Run.Due)
	} else if r.Run.Due != 0 || r.Run.Try != 0 {
		return false
	}
	if len(r.Queue) > 0 && (r.Run.Num == 0 || r.Job.Overlap != queue) {
		return false
	}
	l = append(l, r.Queue...)
	if r.Next != noTime {
		l = append(l, r.Next)
	}
	for i, at := range l {
		if !has(r.Job, at) || i > 0 && at <= l[i-1] {
			return false
		}
	}
	return true
}

// mayTime tells whether now is a time.
func mayTime(now int64) bool { return now >= 0 && now <= lastTime }

// firstBehind tells the job's first time behind now, minute by minute, or none.
func firstBehind(j api.Job, now int64) int64 {
	if j.Once {
		if j.At > now {
			return j.At
		}
		return noTime
	}
	for at := now - now%minute + minute; at <= lastTime; at += minute {
		if has(j, at) {
			return at
		}
	}
	return noTime
}

// between tells the job's times from one to another, minute by minute.
func between(j api.Job, from, to int64) []int64 {
	if j.Once {
		return []int64{j.At}
	}
	var l []int64
	for at := from; at <= to; at += minute {
		if has(j, at) {
			l = append(l, at)
		}
	}
	return l
}

// occurOf is what is offered, and the Next then, by the chapter's words.
func occurOf(r api.Row, now int64) ([]int64, int64) {
	if !mayRow(r) || !mayTime(now) {
		return nil, noTime
	}
	if r.Next == noTime || r.Next > now {
		return nil, r.Next
	}
	l := between(r.Job, r.Next, now)
	switch r.Job.Catch {
	case none:
		l = l[len(l)-1:]
		if now-l[0] > age {
			l = nil
		}
	case last:
		l = l[len(l)-1:]
	case all:
		l = l[:min(len(l), mostTold)]
	}
	return l, firstBehind(r.Job, now)
}

// stepOf is what a step comes to, by the chapter's words.
func stepOf(r api.Row, now int64, num uint64) (api.Row, []api.Launch, api.Errno) {
	if !mayRow(r) || !mayTime(now) || num == 0 {
		return api.Row{}, nil, 230
	}
	l, next := occurOf(r, now)
	r.Next, r.Queue = next, slices.Clone(r.Queue)
	var told []api.Launch
	for _, at := range l {
		if r.Run.Num == 0 {
			r.Run = api.Going{Num: num, Due: at}
			told = append(told, api.Launch{Num: num, Name: r.Job.Name, Due: at})
		} else if r.Job.Overlap == queue && len(r.Queue) < mostWait {
			r.Queue = append(r.Queue, at)
		}
	}
	return r, told, api.OK
}

// endOf is what an answer comes to, by the chapter's words.
func endOf(r api.Row, num uint64, ok bool, fresh uint64) (api.Row, []api.Launch, bool, api.Errno) {
	if !mayRow(r) || fresh == 0 || fresh == num {
		return api.Row{}, nil, false, 230
	}
	if num == 0 || num != r.Run.Num {
		return api.Row{}, nil, false, api.ErrNone
	}
	if !ok && r.Run.Try < r.Job.Retries {
		r.Run = api.Going{Num: fresh, Due: r.Run.Due, Try: r.Run.Try + 1}
	} else if len(r.Queue) > 0 {
		r.Run, r.Queue = api.Going{Num: fresh, Due: r.Queue[0]}, r.Queue[1:]
	} else {
		r.Run = api.Going{}
		return r, nil, r.Job.Once && r.Next == noTime, api.OK
	}
	return r, []api.Launch{{Num: fresh, Name: r.Job.Name, Due: r.Run.Due, Try: r.Run.Try}}, false, api.OK
}

// equalRow tells whether both rows are the same.
func equalRow(a, b api.Row) bool {
	return a.Job == b.Job && a.Paused == b.Paused && a.Next == b.Next && a.Run == b.Run && slices.Equal(a.Queue, b.Queue)
}

// holdOccur holds Occur against the chapter's words.
func holdOccur(t *testing.T, r api.Row, now int64) {
	t.Helper()
	want, wantNext := occurOf(r, now)
	if got, next := due.Occur(r, now); !slices.Equal(got, want) || next != wantNext {
		t.Errorf("Occur(%+v, %d): %v %d, want %v %d", r, now, got, next, want, wantNext)
	}
}

// holdStep holds Step against the chapter's words, and tells what it answers.
func holdStep(t *testing.T, r api.Row, now int64, num uint64) (api.Row, []api.Launch, api.Errno) {
	t.Helper()
	want, wantTold, err := stepOf(r, now, num)
	got, told, e := due.Step(r, now, num)
	if !equalRow(got, want) || !slices.Equal(told, wantTold) || e != err {
		t.Errorf("Step(%+v, %d, %d): %+v %v %d, want %+v %v %d", r, now, num, got, told, e, want, wantTold, err)
	}
	return got, told, e
}

// holdEnd holds End against the chapter's words, and tells what it answers.
func holdEnd(t *testing.T, r api.Row, num uint64, ok bool, fresh uint64) (api.Row, []api.Launch, bool, api.Errno) {
	t.Helper()
	want, wantTold, wantGone, err := endOf(r, num, ok, fresh)
	got, told, gone, e := due.End(r, num, ok, fresh)
	if !equalRow(got, want) || !slices.Equal(told, wantTold) || gone != wantGone || e != err {
		t.Errorf("End(%+v, %d, %v, %d): %+v %v %v %d, want %+v %v %v %d", r, num, ok, fresh, got, told, gone, e, want, wantTold, wantGone, err)
	}
	return got, told, gone, e
}

// P13.2, P13.3: the chapter's examples.
func TestExamples(t *testing.T) {
	r := hourly(t, queue, all, 0, hour)
	if x, l, e := due.Step(r, 3599, 1); e != api.OK || len(l) != 0 || !equalRow(x, r) {
		t.Errorf("Step(3599): %+v %v %d", x, l, e)
	}
	want := with(hourly(t, queue, all, 0, 7200), api.Going{Num: 1, Due: hour})
	if x, l, e := due.Step(r, 3600, 1); e != api.OK || !slices.Equal(l, []api.Launch{{Num: 1, Name: 7, Due: 3600}}) || !equalRow(x, want) {
		t.Errorf("Step(3600): %+v %v %d", x, l, e)
	}
	busy := with(hourly(t, queue, all, 0, 21600), api.Going{Num: 1, Due: hour}, 7200, 10800, 14400)
	x, l, e := due.Step(r, 18000, 1)
	if e != api.OK || !slices.Equal(l, []api.Launch{{Num: 1, Name: 7, Due: 3600}}) || !equalRow(x, busy) {
		t.Errorf("Step(18000): %+v %v %d", x, l, e)
	}
	want = with(hourly(t, queue, all, 0, 21600), api.Going{Num: 2, Due: 7200}, 10800, 14400)
	if y, l, gone, e := due.End(x, 1, true, 2); e != api.OK || gone || !slices.Equal(l, []api.Launch{{Num: 2, Name: 7, Due: 7200}}) || !equalRow(y, want) {
		t.Errorf("End(1): %+v %v %v %d", y, l, gone, e)
	}
	if y, l, gone, e := due.End(x, 5, true, 6); e != api.ErrNone || gone || len(l) != 0 || !equalRow(y, api.Row{}) {
		t.Errorf("End(5): %+v %v %v %d", y, l, gone, e)
	}
	x, _, _ = due.Step(hourly(t, queue, all, 1, hour), 18000, 1)
	x, l, gone, e := due.End(x, 1, false, 2)
	if e != api.OK || gone || !slices.Equal(l, []api.Launch{{Num: 2, Name: 7, Due: 3600, Try: 1}}) {
		t.Errorf("End(1, false): %v %v %d", l, gone, e)
	}
	if _, l, gone, e := due.End(x, 2, false, 3); e != api.OK || gone || !slices.Equal(l, []api.Launch{{Num: 3, Name: 7, Due: 7200}}) {
		t.Errorf("End(2, false): %v %v %d", l, gone, e)
	}
	if x, l, e := due.Step(hourly(t, queue, last, 0, hour), 18000, 1); e != api.OK || !slices.Equal(l, []api.Launch{{Num: 1, Name: 7, Due: 18000}}) || x.Next != 21600 || len(x.Queue) != 0 {
		t.Errorf("CatchLast: %+v %v %d", x, l, e)
	}
	if x, l, e := due.Step(hourly(t, queue, none, 0, hour), 18060, 1); e != api.OK || len(l) != 0 || !equalRow(x, hourly(t, queue, none, 0, 21600)) {
		t.Errorf("CatchNone: %+v %v %d", x, l, e)
	}
}

// P13.1: what each Catch offers, and the Next then.
func TestOccur(t *testing.T) {
	for _, q := range []struct {
		name string
		r    api.Row
		now  int64
		want []int64
		next int64
	}{
		{"ahead of Next", hourly(t, skip, all, 0, hour), hour - 1, nil, hour},
		{"long ahead of Next", hourly(t, skip, last, 0, 9*hour), 0, nil, 9 * hour},
		{"no Next", hourly(t, skip, all, 0, noTime), 5 * hour, nil, noTime},
		{"Next 0", hourly(t, skip, all, 0, 0), 0, []int64{0}, hour},
		{"none, just now", hourly(t, skip, none, 0, hour), hour, []int64{hour}, 2 * hour},
		{"none, of an age of 59", hourly(t, skip, none, 0, hour), hour + 59, []int64{hour}, 2 * hour},
		{"none, of an age of 60", hourly(t, skip, none, 0, hour), hour + 60, nil, 2 * hour},
		{"none, ahead of the second one", hourly(t, skip, none, 0, hour), 2*hour - 1, nil, 2 * hour},
		{"none, the second one", hourly(t, skip, none, 0, hour), 2*hour + 59, []int64{2 * hour}, 3 * hour},
		{"none, behind the second one", hourly(t, skip, none, 0, hour), 2*hour + 60, nil, 3 * hour},
		{"last, just now", hourly(t, skip, last, 0, hour), hour, []int64{hour}, 2 * hour},
		{"last, an hour later", hourly(t, skip, last, 0, hour), 2*hour - 1, []int64{hour}, 2 * hour},
		{"last, of three", hourly(t, skip, last, 0, hour), 3*hour + 1, []int64{3 * hour}, 4 * hour},
		{"last, of many", hourly(t, skip, last, 0, hour), 1000*day + hour, []int64{1000*day + hour}, 1000*day + 2*hour},
		{"all, just now", hourly(t, skip, all, 0, hour), hour, []int64{hour}, 2 * hour},
		{"all, of three", hourly(t, skip, all, 0, hour), 4*hour - 1, []int64{hour, 2 * hour, 3 * hour}, 4 * hour},
		{"all, of four", hourly(t, skip, all, 0, hour), 4 * hour, []int64{hour, 2 * hour, 3 * hour, 4 * hour}, 5 * hour},
		{"all, of five", hourly(t, skip, all, 0, hour), 5 * hour, []int64{hour, 2 * hour, 3 * hour, 4 * hour}, 6 * hour},
		{"all, of many", hourly(t, queue, all, 0, 3*hour), 1000*day - 1, []int64{3 * hour, 4 * hour, 5 * hour, 6 * hour}, 1000 * day},
		{"what runs counts not", with(hourly(t, queue, all, 3, 3*hour), api.Going{Num: 4, Due: hour, Try: 2}, 2*hour), 4 * hour, []int64{3 * hour, 4 * hour}, 5 * hour},
		{"once, ahead", once(t, none, 90), 89, nil, 90},
		{"once, none, just now", once(t, none, 90), 90, []int64{90}, noTime},
		{"once, none, of an age of 59", once(t, none, 90), 149, []int64{90}, noTime},
		{"once, none, of an age of 60", once(t, none, 90), 150, nil, noTime},
		{"once, last", once(t, last, 90), lastTime, []int64{90}, noTime},
		{"once, all", once(t, all, 90), lastTime, []int64{90}, noTime},
		{"once, at the end", once(t, all, lastTime), lastTime, []int64{lastTime}, noTime},
		{"once, ahead of the end", once(t, all, lastTime), lastTime - 1, nil, lastTime},
		{"once, at the beginning", once(t, none, 0), 0, []int64{0}, noTime},
		{"the last hour", hourly(t, skip, none, 0, lastTime-3599), lastTime - 3599, []int64{lastTime - 3599}, noTime},
		{"the last two hours", hourly(t, skip, all, 0, lastTime-7199), lastTime, []int64{lastTime - 7199, lastTime - 3599}, noTime},
		{"the last hour, to come", hourly(t, skip, last, 0, lastTime-7199), lastTime - 3600, []int64{lastTime - 7199}, lastTime - 3599},
	} {
		if got, next := due.Occur(q.r, q.now); !slices.Equal(got, q.want) || next != q.next {
			t.Errorf("%s: %v %d, want %v %d", q.name, got, next, q.want, q.next)
		}
		if got, next := occurOf(q.r, q.now); q.now < 10*day && (!slices.Equal(got, q.want) || next != q.next) {
			t.Errorf("%s: the words say %v %d", q.name, got, next)
		}
	}
}

// wrongRows are rows that may not be, each for one reason.
func wrongRows(t *testing.T) map[string]api.Row {
	t.Helper()
	change := func(do func(r *api.Row)) api.Row {
		r := with(hourly(t, queue, all, 2, 4*hour), api.Going{Num: 5, Due: hour, Try: 1}, 2*hour, 3*hour)
		do(&r)
		return r
	}
	return map[string]api.Row{
		"zero":             {},
		"no name":          change(func(r *api.Row) { r.Job.Name = 0 }),
		"no cron":          change(func(r *api.Row) { r.Job.Cron = api.Cron{} }),
		"catch":            change(func(r *api.Row) { r.Job.Catch = 3 }),
		"catch below":      change(func(r *api.Row) { r.Job.Catch = -1 }),
		"paused":           change(func(r *api.Row) { r.Paused = true }),
		"next is none":     change(func(r *api.Row) { r.Next++ }),
		"next is below":    change(func(r *api.Row) { r.Next = -2 }),
		"next is waiting":  change(func(r *api.Row) { r.Next = 3 * hour }),
		"num":              change(func(r *api.Row) { r.Run.Num = 0 }),
		"due":              change(func(r *api.Row) { r.Run.Due = hour + 1 }),
		"try":              change(func(r *api.Row) { r.Run.Try = 3 }),
		"queue falls":      change(func(r *api.Row) { r.Queue[0] = 3 * hour }),
		"queue is too old": change(func(r *api.Row) { r.Queue[0] = hour }),
		"queue is long":    change(func(r *api.Row) { r.Queue, r.Next = []int64{2 * hour, 3 * hour, 4 * hour, 5 * hour}, noTime }),
		"skips, and waits": change(func(r *api.Row) { r.Job.Overlap = skip }),
		"nothing runs":     change(func(r *api.Row) { r.Run = api.Going{} }),
		"never":            change(func(r *api.Row) { r.Job.Cron.Day, r.Job.Cron.Month, r.Next = 1<<30, 1<<2, noTime }),
	}
}

// P13.1, P13.2, P13.3: of a row that may not be nothing is offered, and nothing comes, whatever else is handed in.
func TestWrongRows(t *testing.T) {
	for name, r := range wrongRows(t) {
		if mayRow(r) {
			t.Errorf("%s: the words say that it may be", name)
		}
		for _, now := range []int64{-1, 0, 3*hour + 1, 4 * hour, 9 * hour, lastTime, lastTime + 1} {
			if l, next := due.Occur(r, now); len(l) != 0 || next != noTime {
				t.Errorf("Occur, %s, %d: %v %d", name, now, l, next)
			}
			for _, num := range []uint64{0, 6} {
				if x, l, e := due.Step(r, now, num); e != api.ErrDue || len(l) != 0 || !equalRow(x, api.Row{}) {
					t.Errorf("Step, %s, %d: %+v %v %d", name, now, x, l, e)
				}
			}
		}
		for _, num := range []uint64{0, r.Run.Num, 4, 6} {
			for _, fresh := range []uint64{0, 6} {
				if x, l, gone, e := due.End(r, num, false, fresh); e != api.ErrDue || gone || len(l) != 0 || !equalRow(x, api.Row{}) {
					t.Errorf("End, %s, %d, %d: %+v %v %v %d", name, num, fresh, x, l, gone, e)
				}
			}
		}
	}
}

// P13.1, P13.2: of what is no time nothing is offered, and no step is made.
func TestWrongTimes(t *testing.T) {
	rows := []api.Row{hourly(t, queue, all, 1, hour), hourly(t, skip, none, 0, noTime), hourly(t, skip, last, 0, 9*hour), once(t, all, 90), with(once(t, none, 0), api.Going{})}
	for _, r := range rows {
		for _, now := range []int64{-1, -2, math.MinInt64, math.MinInt64 + age, lastTime + 1, lastTime + hour, math.MaxInt64} {
			if l, next := due.Occur(r, now); len(l) != 0 || next != noTime {
				t.Errorf("Occur(%d): %v %d", now, l, next)
			}
			if x, l, e := due.Step(r, now, 1); e != api.ErrDue || len(l) != 0 || !equalRow(x, api.Row{}) {
				t.Errorf("Step(%d): %+v %v %d", now, x, l, e)
			}
		}
		for _, now := range []int64{0, 89, lastTime} {
			if x, l, e := due.Step(r, now, 0); e != api.ErrDue || len(l) != 0 || !equalRow(x, api.Row{}) {
				t.Errorf("Step(%d) with the Num 0: %+v %v %d", now, x, l, e)
			}
			if _, _, e := due.Step(r, now, 1); e != api.OK {
				t.Errorf("Step(%d): %d", now, e)
			}
		}
	}
}

// P13.2: what is offered is launched, waits, or is lost.
func TestStep(t *testing.T) {
	run := api.Going{Num: 3, Due: hour, Try: 1}
	for _, q := range []struct {
		name string
		r    api.Row
		now  int64
		run  api.Going
		wait []int64
		told int
	}{
		{"all, skip: the first one", hourly(t, skip, all, 1, hour), 5 * hour, api.Going{Num: 9, Due: hour}, nil, 1},
		{"all, queue: three more wait", hourly(t, queue, all, 1, hour), 5 * hour, api.Going{Num: 9, Due: hour}, []int64{2 * hour, 3 * hour, 4 * hour}, 1},
		{"all, queue: one more", hourly(t, queue, all, 1, hour), 2 * hour, api.Going{Num: 9, Due: hour}, []int64{2 * hour}, 1},
		{"last, queue", hourly(t, queue, last, 1, hour), 5 * hour, api.Going{Num: 9, Due: 5 * hour}, nil, 1},
		{"none, queue", hourly(t, queue, none, 1, hour), 5*hour + 59, api.Going{Num: 9, Due: 5 * hour}, nil, 1},
		{"none, too old", hourly(t, queue, none, 1, hour), 5*hour + 60, api.Going{}, nil, 0},
		{"one runs, skip", with(hourly(t, skip, all, 1, 2*hour), run), 5 * hour, run, nil, 0},
		{"one runs, all", with(hourly(t, queue, all, 1, 2*hour), run), 3 * hour, run, []int64{2 * hour, 3 * hour}, 0},
		{"one runs, all: the fourth one is lost", with(hourly(t, queue, all, 1, 2*hour), run), 5 * hour, run, []int64{2 * hour, 3 * hour, 4 * hour}, 0},
		{"one runs, last", with(hourly(t, queue, last, 1, 2*hour), run), 5 * hour, run, []int64{5 * hour}, 0},
		{"one runs, none", with(hourly(t, queue, none, 1, 2*hour), run), 5*hour + 59, run, []int64{5 * hour}, 0},
		{"one runs, none, too old", with(hourly(t, queue, none, 1, 2*hour), run), 5*hour + 60, run, nil, 0},
		{"one waits", with(hourly(t, queue, all, 1, 3*hour), run, 2*hour), 9 * hour, run, []int64{2 * hour, 3 * hour, 4 * hour}, 0},
		{"two wait", with(hourly(t, queue, all, 1, 4*hour), run, 2*hour, 3*hour), 9 * hour, run, []int64{2 * hour, 3 * hour, 4 * hour}, 0},
		{"two wait, last", with(hourly(t, queue, last, 1, 4*hour), run, 2*hour, 3*hour), 9 * hour, run, []int64{2 * hour, 3 * hour, 9 * hour}, 0},
		{"three wait", with(hourly(t, queue, all, 1, 5*hour), run, 2*hour, 3*hour, 4*hour), 9 * hour, run, []int64{2 * hour, 3 * hour, 4 * hour}, 0},
		{"three wait, last", with(hourly(t, queue, last, 1, 5*hour), run, 2*hour, 3*hour, 4*hour), 9 * hour, run, []int64{2 * hour, 3 * hour, 4 * hour}, 0},
		{"ahead of Next", with(hourly(t, queue, all, 1, 9*hour), run, 2*hour), 9*hour - 1, run, []int64{2 * hour}, 0},
		{"no Next", with(hourly(t, queue, all, 1, noTime), run, 2*hour), 9 * hour, run, []int64{2 * hour}, 0},
		{"due at 0", hourly(t, queue, all, 1, 0), hour, api.Going{Num: 9}, []int64{hour}, 1},
		{"one runs that was due at 0", with(hourly(t, queue, all, 1, hour), api.Going{Num: 3}), hour, api.Going{Num: 3}, []int64{hour}, 0},
		{"once", once(t, all, 90), 95, api.Going{Num: 9, Due: 90}, nil, 1},
		{"once, too old", once(t, none, 90), 150, api.Going{}, nil, 0},
	} {
		x, l, e := holdStep(t, q.r, q.now, 9)
		if e != api.OK || x.Run != q.run || !slices.Equal(x.Queue, q.wait) || len(l) != q.told {
			t.Errorf("%s: %+v %v %d", q.name, x, l, e)
		}
		if q.told == 1 && l[0] != (api.Launch{Num: 9, Name: q.r.Job.Name, Due: q.run.Due}) {
			t.Errorf("%s: %v", q.name, l)
		}
		if _, next := due.Occur(q.r, q.now); x.Next != next || x.Job != q.r.Job || x.Paused != q.r.Paused {
			t.Errorf("%s: %+v, Next has to be %d", q.name, x, next)
		}
	}
	if _, l, e := holdStep(t, hourly(t, skip, last, 0, hour), hour, math.MaxUint64); e != api.OK || l[0].Num != math.MaxUint64 {
		t.Errorf("the last Num: %v %d", l, e)
	}
	// The Num of what runs may be handed in once more: nothing takes it while that runs.
	if x, l, e := holdStep(t, with(hourly(t, queue, all, 1, 2*hour), run), 2*hour, 3); e != api.OK || len(l) != 0 || x.Run != run {
		t.Errorf("the Num of what runs: %+v %v %d", x, l, e)
	}
}

// P13.3: what fails is tried once more, then comes the queue, then nothing.
func TestEnd(t *testing.T) {
	run := func(try int) api.Going { return api.Going{Num: 3, Due: hour, Try: try} }
	launched := func(at int64, try int) []api.Launch { return []api.Launch{{Num: 9, Name: 7, Due: at, Try: try}} }
	for _, q := range []struct {
		name string
		r    api.Row
		ok   bool
		told []api.Launch
		wait []int64
	}{
		{"ok, nothing waits", with(hourly(t, queue, all, 3, 5*hour), run(0)), true, nil, nil},
		{"ok, skip", with(hourly(t, skip, all, 3, 5*hour), run(0)), true, nil, nil},
		{"ok, one waits", with(hourly(t, queue, all, 3, 5*hour), run(2), 2*hour), true, launched(2*hour, 0), nil},
		{"ok, two wait", with(hourly(t, queue, all, 3, 5*hour), run(3), 2*hour, 4*hour), true, launched(2*hour, 0), []int64{4 * hour}},
		{"ok, three wait", with(hourly(t, queue, all, 3, noTime), run(0), 2*hour, 3*hour, 4*hour), true, launched(2*hour, 0), []int64{3 * hour, 4 * hour}},
		{"failed, no retries", with(hourly(t, queue, all, 0, 5*hour), run(0)), false, nil, nil},
		{"failed, no retries, one waits", with(hourly(t, queue, all, 0, 5*hour), run(0), 2*hour), false, launched(2*hour, 0), nil},
		{"failed, of one", with(hourly(t, queue, all, 1, 5*hour), run(0), 2*hour), false, launched(hour, 1), []int64{2 * hour}},
		{"failed, of one, again", with(hourly(t, queue, all, 1, 5*hour), run(1), 2*hour), false, launched(2*hour, 0), nil},
		{"failed, of three, thrice", with(hourly(t, skip, all, 3, 5*hour), run(2)), false, launched(hour, 3), nil},
		{"failed, of three, for good", with(hourly(t, skip, all, 3, 5*hour), run(3)), false, nil, nil},
		{"failed, of a recurring job that has no Next", with(hourly(t, skip, all, 3, noTime), run(3)), false, nil, nil},
	} {
		x, l, gone, e := holdEnd(t, q.r, 3, q.ok, 9)
		if e != api.OK || gone || !slices.Equal(l, q.told) || !slices.Equal(x.Queue, q.wait) || x.Next != q.r.Next || x.Job != q.r.Job {
			t.Errorf("%s: %+v %v %v %d", q.name, x, l, gone, e)
		}
		if len(q.told) == 0 && x.Run != (api.Going{}) || len(q.told) == 1 && x.Run != (api.Going{Num: 9, Due: l[0].Due, Try: l[0].Try}) {
			t.Errorf("%s: %+v runs", q.name, x.Run)
		}
	}
}

// P13.3: a job that is due once is gone when it has ended, in the one way or the other.
func TestEndOnce(t *testing.T) {
	for _, paused := range []bool{false, true} {
		r := api.Row{Job: mustOf(t, api.Wish{Name: 8, At: 90, Retries: 1}), Next: noTime, Paused: paused}
		for _, q := range []struct {
			try      int
			ok, gone bool
		}{{0, true, true}, {0, false, false}, {1, true, true}, {1, false, true}} {
			x, l, gone, e := holdEnd(t, with(r, api.Going{Num: 3, Due: 90, Try: q.try}), 3, q.ok, 4)
			if e != api.OK || gone != q.gone || (len(l) == 0) != q.gone || (x.Run == api.Going{}) != q.gone || x.Job != r.Job || x.Paused != paused {
				t.Errorf("try %d, %v: %+v %v %v %d", q.try, q.ok, x, l, gone, e)
			}
		}
	}
	if _, _, gone, e := due.End(with(once(t, all, 0), api.Going{}), 1, true, 2); e != api.ErrNone || gone {
		t.Errorf("ahead of its time: %v %d", gone, e)
	}
	r := with(once(t, all, 0), api.Going{Num: 1})
	r.Next = noTime
	if x, l, gone, e := holdEnd(t, r, 1, true, 2); e != api.OK || !gone || len(l) != 0 || x.Run != (api.Going{}) || x.Next != noTime {
		t.Errorf("due at 0: %+v %v %v %d", x, l, gone, e)
	}
}

// P13.3: which Nums may not be, and which of the errors is told.
func TestEndNums(t *testing.T) {
	quiet := hourly(t, queue, all, 1, hour)
	busy := with(hourly(t, queue, all, 1, 9*hour), api.Going{Num: 3, Due: hour}, 2*hour)
	big := with(hourly(t, queue, all, 1, 9*hour), api.Going{Num: math.MaxUint64, Due: hour}, 2*hour)
	for _, q := range []struct {
		name       string
		r          api.Row
		num, fresh uint64
		want       api.Errno
	}{
		{"fresh is 0", busy, 3, 0, api.ErrDue},
		{"fresh is num", busy, 3, 3, api.ErrDue},
		{"both are 0", busy, 0, 0, api.ErrDue},
		{"num is 0", busy, 0, 4, api.ErrNone},
		{"num is none's, fresh is that", busy, 5, 5, api.ErrDue},
		{"num is none's, fresh is 0", busy, 5, 0, api.ErrDue},
		{"num is none's", busy, 4, 5, api.ErrNone},
		{"num is none's, fresh is what runs", busy, 4, 3, api.ErrNone},
		{"num is the last one", busy, math.MaxUint64, 4, api.ErrNone},
		{"num has a bit more", busy, 3 + 1<<32, 4, api.ErrNone},
		{"fresh is below", busy, 3, 1, api.OK},
		{"fresh is the last one", busy, 3, math.MaxUint64, api.OK},
		{"the last one runs", big, math.MaxUint64, 1, api.OK},
		{"the last one runs, fresh is it", big, math.MaxUint64, math.MaxUint64, api.ErrDue},
		{"nothing runs", quiet, 3, 4, api.ErrNone},
		{"nothing runs, num is 0", quiet, 0, 4, api.ErrNone},
		{"nothing runs, fresh is 0", quiet, 3, 0, api.ErrDue},
		{"nothing runs, both are 0", quiet, 0, 0, api.ErrDue},
	} {
		for _, ok := range []bool{true, false} {
			x, l, gone, e := holdEnd(t, q.r, q.num, ok, q.fresh)
			if e != q.want || e != api.OK && (gone || len(l) != 0 || !equalRow(x, api.Row{})) {
				t.Errorf("%s: %+v %v %v %d, want %d", q.name, x, l, gone, e, q.want)
			}
		}
	}
}

// jobs are jobs of all sorts that recur often enough to be gone through minute by minute.
func jobs(t *testing.T, r *rand.Rand) api.Job {
	t.Helper()
	w := api.Wish{Name: r.Uint32()>>uint(r.Intn(32)) | 1, Overlap: r.Intn(2), Catch: r.Intn(3), Retries: r.Intn(4)}
	texts := []string{"* * * * *", "*/7 * * * *", "@hourly", "30 */6 * * *", "@daily", "5,6,7 1-3 * * *", "0 0 * * 1", ""}
	if w.Text = texts[r.Intn(len(texts))]; w.Text == "" {
		w.At = []int64{0, lastTime, r.Int63n(3 * day), r.Int63n(lastTime)}[r.Intn(4)]
	}
	return mustOf(t, w)
}

// some is a row of the job that may be, near a time.
func some(j api.Job, r *rand.Rand, near int64) api.Row {
	row := api.Row{Job: j, Next: noTime}
	var l []int64
	for at := firstBehind(j, near); at != noTime && len(l) < 5; at = firstBehind(j, at) {
		l = append(l, at)
	}
	if r.Intn(2) == 0 && len(l) > 0 {
		row.Run = api.Going{Num: r.Uint64()>>uint(r.Intn(64)) | 1, Due: l[0], Try: r.Intn(j.Retries + 1)}
		l = l[1:]
		if j.Overlap == queue {
			n := r.Intn(min(len(l), mostWait) + 1)
			row.Queue, l = l[:n:n], l[n:]
		}
	}
	if len(l) > 0 && r.Intn(8) > 0 {
		row.Next = l[0]
	} else {
		row.Paused = r.Intn(2) == 0
	}
	return row
}

// P13.1, P13.2: rows and times of all sorts, against the chapter's words.
func TestStepWords(t *testing.T) {
	r := rand.New(rand.NewSource(131))
	tally := map[[3]int]int{}
	for range 6000 {
		j := jobs(t, r)
		near := []int64{-1, r.Int63n(day), lastTime - r.Int63n(day)}[r.Intn(3)]
		row := some(j, r, near)
		if !mayRow(row) {
			t.Fatalf("%+v may not be", row)
		}
		now := max(near, row.Next) + r.Int63n(int64(1)<<uint(1+r.Intn(18))) - int64(r.Intn(3))
		if now-near > 10*day {
			now = row.Next - 1 + int64(r.Intn(3))
		}
		holdOccur(t, row, now)
		x, l, _ := holdStep(t, row, now, uint64(1+r.Intn(9)))
		tally[[3]int{j.Catch, len(l), len(x.Queue)}]++
		if t.Failed() {
			return
		}
	}
	for c := range 3 {
		for told := range 2 {
			for waits := range 4 {
				if tally[[3]int{c, told, waits}] == 0 && (c == all || told == 0 || waits == 0) {
					t.Errorf("no step of Catch %d with %d launches, and %d that wait", c, told, waits)
				}
			}
		}
	}
}

// P13.3: rows of all sorts, and any answers, against the chapter's words.
func TestEndWords(t *testing.T) {
	r := rand.New(rand.NewSource(132))
	tally := map[api.Errno]int{}
	gone := 0
	for range 6000 {
		row := some(jobs(t, r), r, r.Int63n(day))
		num, fresh := []uint64{row.Run.Num, row.Run.Num, 0, r.Uint64()}[r.Intn(4)], []uint64{row.Run.Num + 1, r.Uint64(), 0, row.Run.Num}[r.Intn(4)]
		_, _, out, e := holdEnd(t, row, num, r.Intn(2) == 0, fresh)
		tally[e]++
		if out {
			gone++
		}
		if t.Failed() {
			return
		}
	}
	for _, e := range []api.Errno{api.OK, api.ErrDue, api.ErrNone} {
		if tally[e] < 100 {
			t.Errorf("%d answers of %d", tally[e], e)
		}
	}
	if gone < 20 {
		t.Errorf("%d were gone", gone)
	}
}
