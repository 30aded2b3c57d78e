package due_test

import (
	"math/rand"
	"slices"
	"testing"

	"curfew/api"
	"curfew/due"
	"curfew/table"
)

// walk is a job that goes on by steps and answers, and what it was seen to launch.
type walk struct {
	t    *testing.T
	row  api.Row
	now  int64
	num  uint64
	seen []api.Launch
	gone bool
}

// step goes on in time, and holds what has to hold behind each step.
func (w *walk) step(by int64) {
	w.t.Helper()
	w.now = min(w.now+by, lastTime)
	ahead := w.row
	x, l, e := due.Step(ahead, w.now, w.num+1)
	if e != api.OK || table.CheckRow(x) != api.OK || !mayRow(x) {
		w.t.Fatalf("Step(%+v, %d): %+v %d", ahead, w.now, x, e)
	}
	if len(l) > 1 || len(l) == 1 && ahead.Run != (api.Going{}) {
		w.t.Fatalf("Step(%+v, %d) launches %v", ahead, w.now, l)
	}
	if x.Next != noTime && x.Next <= w.now || ahead.Paused && len(l) > 0 {
		w.t.Fatalf("Step(%+v, %d): %+v %v", ahead, w.now, x, l)
	}
	// Behind a step nothing more is offered, till the next one is due.
	if again, more, e := due.Step(x, w.now, w.num+2); e != api.OK || len(more) != 0 || !equalRow(again, x) {
		w.t.Fatalf("Step(%+v, %d) once more: %+v %v %d", x, w.now, again, more, e)
	}
	w.row = x
	w.see(l)
}

// end answers what runs, and holds what has to hold behind each answer.
func (w *walk) end(ok bool) {
	w.t.Helper()
	ahead := w.row
	x, l, gone, e := due.End(ahead, ahead.Run.Num, ok, w.num+1)
	if e != api.OK || table.CheckRow(x) != api.OK || !mayRow(x) || len(l) > 1 || x.Next != ahead.Next {
		w.t.Fatalf("End(%+v, %v): %+v %v %d", ahead, ok, x, l, e)
	}
	if gone && (x.Run != (api.Going{}) || len(l) > 0 || len(x.Queue) > 0) {
		w.t.Fatalf("End(%+v, %v) is gone: %+v %v", ahead, ok, x, l)
	}
	w.row, w.gone = x, gone
	w.see(l)
}

// see keeps what was launched: it runs, with the Num that was fresh.
func (w *walk) see(l []api.Launch) {
	w.t.Helper()
	for _, x := range l {
		w.num++
		if x.Num != w.num || x.Name != w.row.Job.Name || w.row.Run != (api.Going{Num: x.Num, Due: x.Due, Try: x.Try}) || x.Due > w.now || !has(w.row.Job, x.Due) {
			w.t.Fatalf("launched %+v as %d at %d: %+v", x, w.num, w.now, w.row)
		}
		w.seen = append(w.seen, x)
	}
}

// holdSeen holds that each time was launched once with Try 0, in order, and then tried no more often than may be.
func (w *walk) holdSeen() {
	w.t.Helper()
	for i, x := range w.seen {
		if x.Try < 0 || x.Try > w.row.Job.Retries {
			w.t.Fatalf("launch %d: %+v", i, x)
		}
		switch {
		case x.Try == 0 && i > 0 && x.Due <= w.seen[i-1].Due:
			w.t.Fatalf("launch %d: %+v behind %+v", i, x, w.seen[i-1])
		case x.Try > 0 && (i == 0 || w.seen[i-1].Due != x.Due || w.seen[i-1].Try != x.Try-1):
			w.t.Fatalf("launch %d: %+v was not tried ahead", i, x)
		}
	}
}

// P13.4: step by step, and answer by answer, what comes may be, and each time is launched once.
func TestWalks(t *testing.T) {
	r := rand.New(rand.NewSource(134))
	tries, waited, gone := 0, 0, 0
	for range 300 {
		j := jobs(t, r)
		w := &walk{t: t, now: r.Int63n(2 * day)}
		w.row = api.Row{Job: j, Next: firstBehind(j, w.now)}
		if j.Once && j.At > 10*day {
			w.now = j.At - 100
		}
		for range 60 {
			switch {
			case w.gone:
			case w.row.Run.Num > 0 && r.Intn(2) == 0:
				w.end(r.Intn(2) == 0)
			case r.Intn(3) == 0 && w.row.Next != noTime:
				w.step(max(0, w.row.Next-w.now+int64(r.Intn(3))-1))
			default:
				w.step(r.Int63n(int64(1) << uint(1+r.Intn(17))))
			}
			waited += len(w.row.Queue)
		}
		w.holdSeen()
		if w.gone {
			gone++
		}
		for _, x := range w.seen {
			tries += x.Try
		}
	}
	if tries < 100 || waited < 100 || gone < 10 {
		t.Errorf("%d tries, %d that waited, %d that were gone: too few", tries, waited, gone)
	}
}

// P13.4: with CatchAll, OverlapQueue and an answer ahead of each step, time by time, nothing is lost.
func TestNothingLost(t *testing.T) {
	for _, text := range []string{"* * * * *", "*/7 * * * *", "@hourly", "5,6,7 1-3 * * *"} {
		j := mustOf(t, api.Wish{Name: 7, Text: text, Overlap: queue, Catch: all})
		w := &walk{t: t, now: day / 2}
		w.row = api.Row{Job: j, Next: firstBehind(j, w.now)}
		for range 200 {
			if w.row.Run.Num > 0 {
				w.end(true)
			}
			w.step(w.row.Next - w.now)
		}
		want := between(j, day/2+minute, w.now)
		var got []int64
		for _, x := range w.seen {
			got = append(got, x.Due)
		}
		if !slices.Equal(got, want) || len(got) != 200 {
			t.Errorf("%s: %v, want %v", text, got, want)
		}
	}
}

// P13.4: as many as wait and run are caught up with: all of those that came at once are launched, answer by answer.
func TestCaughtUp(t *testing.T) {
	for n := range 9 {
		w := &walk{t: t, row: hourly(t, queue, all, 0, hour)}
		w.step(int64(n) * hour)
		for w.row.Run.Num > 0 {
			w.end(true)
		}
		var want []api.Launch
		for i := range min(n, mostTold) {
			want = append(want, api.Launch{Num: uint64(i + 1), Name: 7, Due: int64(i+1) * hour})
		}
		if !slices.Equal(w.seen, want) || w.row.Next != int64(n+1)*hour {
			t.Errorf("%d hours: %v, want %v", n, w.seen, want)
		}
	}
}

// P13.4: what is paused is not offered, but what runs, and waits, of it goes on.
func TestPaused(t *testing.T) {
	for _, catch := range []int{none, last, all} {
		r := hourly(t, queue, catch, 1, noTime)
		r.Paused = true
		for _, now := range []int64{0, hour, 5*hour + 59, 1000 * day, lastTime} {
			if l, next := due.Occur(r, now); len(l) != 0 || next != noTime {
				t.Errorf("Occur(%d): %v %d", now, l, next)
			}
			if x, l, e := due.Step(r, now, 1); e != api.OK || len(l) != 0 || !equalRow(x, r) {
				t.Errorf("Step(%d): %+v %v %d", now, x, l, e)
			}
		}
		r = with(r, api.Going{Num: 3, Due: hour}, 2*hour)
		if x, l, e := due.Step(r, 9*hour, 4); e != api.OK || len(l) != 0 || !equalRow(x, r) {
			t.Errorf("Step of one that runs: %+v %v %d", x, l, e)
		}
		x, l, gone, e := due.End(r, 3, true, 4)
		if e != api.OK || gone || !slices.Equal(l, []api.Launch{{Num: 4, Name: 7, Due: 2 * hour}}) || !x.Paused {
			t.Errorf("End: %+v %v %v %d", x, l, gone, e)
		}
	}
}

// roomy is the row with room behind its queue's end, which is not the queue's.
func roomy(r api.Row) api.Row {
	l := append(slices.Clone(r.Queue), 101, 102, 103, 104)
	r.Queue = l[:len(r.Queue)]
	return r
}

// whole is the queue and all its room.
func whole(r api.Row) []int64 { return slices.Clone(r.Queue[:cap(r.Queue)]) }

// answer is what a call answers.
type answer struct {
	row   api.Row
	told  []api.Launch
	times []int64
}

// answers are what all calls answer of the row.
func answers(r api.Row, now int64) []answer {
	var l []answer
	times, _ := due.Occur(r, now)
	l = append(l, answer{times: times})
	row, told, _ := due.Step(r, now, 9)
	l = append(l, answer{row: row, told: told})
	for _, ok := range []bool{true, false} {
		row, told, _, _ := due.End(r, r.Run.Num, ok, 9)
		l = append(l, answer{row: row, told: told})
	}
	return l
}

// spoil writes over all of an answer, with its room.
func (a answer) spoil() {
	for _, l := range [][]int64{a.row.Queue, a.times} {
		for i := range l[:cap(l)] {
			l[:cap(l)][i] = -5
		}
	}
	clear(a.told[:cap(a.told)])
}

// equal tells whether both are the same.
func (a answer) equal(b answer) bool {
	return equalRow(a.row, b.row) && slices.Equal(a.told, b.told) && slices.Equal(a.times, b.times)
}

// R3: what is handed in stays as it is, with the room behind; what is answered is new memory.
func TestMemory(t *testing.T) {
	run := api.Going{Num: 3, Due: hour}
	rows := []api.Row{
		hourly(t, queue, all, 1, 5*hour),
		hourly(t, queue, last, 1, 5*hour),
		hourly(t, queue, none, 0, 5*hour),
		with(hourly(t, queue, all, 0, 5*hour), run),
		with(hourly(t, queue, all, 0, 5*hour), run, 2*hour),
		with(hourly(t, queue, all, 1, 5*hour), run, 2*hour, 3*hour),
		with(hourly(t, queue, last, 0, 5*hour), run, 2*hour, 3*hour, 4*hour),
		with(hourly(t, skip, all, 1, 5*hour), run),
		once(t, all, 90),
	}
	for _, r := range rows {
		for _, now := range []int64{hour, 5 * hour, 9 * hour} {
			r := roomy(r)
			kept := whole(r)
			got, again := answers(r, now), answers(r, now)
			for i := range got {
				got[i].spoil()
			}
			if !slices.Equal(whole(r), kept) {
				t.Fatalf("%+v: what was handed in was changed, or is shared: %v, of %v", r, whole(r), kept)
			}
			for i, third := range answers(r, now) {
				if !third.equal(again[i]) {
					t.Fatalf("%+v: answers share memory: %+v, want %+v", r, again[i], third)
				}
			}
			want := answers(roomy(with(r, r.Run, slices.Clone(r.Queue)...)), now)
			clear(r.Queue[:cap(r.Queue)])
			for i := range again {
				if !again[i].equal(want[i]) {
					t.Fatalf("%+v: what was handed in is kept: %+v, want %+v", r, again[i], want[i])
				}
			}
		}
	}
}

// anything is a row of which nothing is sure.
func anything(r *rand.Rand) api.Row {
	n := func() int64 { return int64(r.Uint64()) >> uint(r.Intn(64)) }
	row := api.Row{Paused: r.Intn(2) == 0, Next: n(), Run: api.Going{Num: r.Uint64() >> uint(r.Intn(64)), Due: n(), Try: int(n())}}
	row.Job = api.Job{Name: r.Uint32() >> uint(r.Intn(32)), Once: r.Intn(2) == 0, At: n(), Overlap: int(n()), Catch: int(n()), Retries: int(n())}
	if r.Intn(2) == 0 {
		row.Job.Cron = api.Cron{Minute: api.Mask(n()), Hour: api.Mask(n()), Day: api.Mask(n()), Month: api.Mask(n()), Weekday: api.Mask(n())}
	}
	for range r.Intn(6) {
		row.Queue = append(row.Queue, n())
	}
	return row
}

// R1: all arguments, whatever they are.
func TestAnything(t *testing.T) {
	r := rand.New(rand.NewSource(135))
	for range 20000 {
		row, now := anything(r), int64(r.Uint64())>>uint(r.Intn(64))
		num, fresh := r.Uint64()>>uint(r.Intn(64)), r.Uint64()>>uint(r.Intn(64))
		switch r.Intn(4) {
		case 0:
			row.Job = hourly(t, r.Intn(2), r.Intn(3), r.Intn(4), hour).Job
		case 1:
			row = some(hourly(t, r.Intn(2), r.Intn(3), r.Intn(4), hour).Job, r, r.Int63n(day))
			now = now % (10 * day)
		}
		if r.Intn(2) == 0 {
			num = row.Run.Num
		}
		holdOccur(t, row, now)
		holdStep(t, row, now, num)
		holdEnd(t, row, num, r.Intn(2) == 0, fresh)
		if t.Failed() {
			return
		}
	}
}
