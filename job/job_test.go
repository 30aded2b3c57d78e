package job_test

import (
	"math"
	"math/rand"
	"slices"
	"strings"
	"testing"

	"curfew/api"
	"curfew/cron"
	"curfew/job"
	"curfew/next"
)

const (
	dayLong  = 86400
	lastTime = 253402300799 // 9999-12-31 23:59:59
)

// The whole fields, by the chapters' ends.
const (
	allMinutes  api.Mask = 1<<60 - 1
	allHours    api.Mask = 1<<24 - 1
	allDays     api.Mask = 1<<32 - 2
	allMonths   api.Mask = 1<<13 - 2
	allWeekdays api.Mask = 1<<7 - 1
)

// wholes are the whole fields, in the order of a text.
var wholes = [5]api.Mask{allMinutes, allHours, allDays, allMonths, allWeekdays}

// fields are the cron's, in the order of a text.
func fields(c *api.Cron) [5]*api.Mask {
	return [5]*api.Mask{&c.Minute, &c.Hour, &c.Day, &c.Month, &c.Weekday}
}

// every is the cron that has each minute.
func every() api.Cron {
	return api.Cron{Minute: allMinutes, Hour: allHours, Day: allDays, Month: allMonths, Weekday: allWeekdays}
}

// wrongCrons are crons that may not be: one field has no number, or one beyond its ends.
func wrongCrons() []api.Cron {
	l := []api.Cron{{}, {Minute: 1}, {Minute: ^api.Mask(0), Hour: ^api.Mask(0), Day: ^api.Mask(0), Month: ^api.Mask(0), Weekday: ^api.Mask(0)}}
	for kind, whole := range wholes {
		for _, m := range []api.Mask{0, ^api.Mask(0), (whole + whole&-whole) &^ whole, whole | 1<<63} {
			c := every()
			*fields(&c)[kind] = m
			l = append(l, c)
		}
	}
	for _, kind := range []int{2, 3} { // days and months begin with 1
		c := every()
		*fields(&c)[kind] |= 1
		l = append(l, c)
	}
	return l
}

// mustRead is the cron of a text that has to be one.
func mustRead(t *testing.T, text string) api.Cron {
	t.Helper()
	c, at, e := cron.Read(text)
	if e != api.OK {
		t.Fatalf("Read(%q): %d %d", text, at, e)
	}
	return c
}

// mustOf is the job of a wish that has to say one.
func mustOf(t *testing.T, w api.Wish) api.Job {
	t.Helper()
	j, e := job.Of(w)
	if e != api.OK {
		t.Fatalf("Of(%+v): %d", w, e)
	}
	return j
}

// nevers are the texts of crons that may be, and never match.
func nevers() []string {
	return []string{"0 0 30 2 *", "0 0 31 2 *", "* * 30-31 2 *", "59 23 31 2,4,6,9,11 *", "0 0 31 4 0-6"}
}

// evers are the texts of crons that match, some of them not often.
func evers() []string {
	return []string{"* * * * *", "0 * * * *", "*/15 * * * *", "0 9 * * 1-5", "0 0 1 1 *", "59 23 31 12 *", "0 0 29 2 *", "0 0 30 2 0", "7,50 3,21 13 * 5", "1 0 31 4,6,9,12 *"}
}

// within tells whether n is from least to most.
func within(n, least, most int64) bool { return n >= least && n <= most }

// numbers tells whether Name, Overlap, Catch and Retries may be.
func numbers(name uint32, overlap, catch, retries int) bool {
	return name != 0 && within(int64(overlap), 0, 1) && within(int64(catch), 0, 2) && within(int64(retries), 0, 3)
}

// checkOf is what Check has to tell, by the chapter's words.
func checkOf(j api.Job) api.Errno {
	may := numbers(j.Name, j.Overlap, j.Catch, j.Retries)
	if j.Once {
		may = may && within(j.At, 0, lastTime) && j.Cron == api.Cron{}
	} else {
		may = may && j.At == 0 && cron.Check(j.Cron) == api.OK
	}
	switch {
	case !may:
		return api.ErrJob
	case !j.Once && !next.Ever(j.Cron):
		return api.ErrNever
	}
	return api.OK
}

// ofOf is what Of has to tell, by the chapter's words.
func ofOf(w api.Wish) (api.Job, api.Errno) {
	most := int64(0)
	if w.Text == "" {
		most = lastTime
	}
	if !numbers(w.Name, w.Overlap, w.Catch, w.Retries) || !within(w.At, 0, most) {
		return api.Job{}, api.ErrJob
	}
	j := api.Job{Name: w.Name, Overlap: w.Overlap, Catch: w.Catch, Retries: w.Retries}
	if w.Text == "" {
		j.Once, j.At = true, w.At
		return j, api.OK
	}
	c, _, e := cron.Read(w.Text)
	if e != api.OK {
		return api.Job{}, e
	}
	if !next.Ever(c) {
		return api.Job{}, api.ErrNever
	}
	j.Cron = c
	return j, api.OK
}

// someNumbers are numbers that may be of some limit, and what is just beyond, and far.
func someNumbers() []int {
	return []int{math.MinInt, -1 << 32, -2, -1, 0, 1, 2, 3, 4, 5, 1 << 32, 1<<32 + 1, math.MaxInt}
}

// someTimes are times, and what is none, around all edges.
func someTimes() []int64 {
	return []int64{math.MinInt64, -1 << 38, -2, -1, 0, 1, 59, 60, 90, 3600, dayLong, lastTime - 1, lastTime, lastTime + 1, 1 << 40, math.MaxInt64}
}

// wishes are wishes that say jobs, and some of them wrong in one thing, two, or many.
func wishes() []api.Wish {
	texts := slices.Concat([]string{"", " ", "@hourly", "@never", "* * * *", "0 25 * * *", "  0 9  * * MON-FRI ", strings.Repeat(" ", 247) + "* * * * *", strings.Repeat(" ", 248) + "* * * * *", strings.Repeat("x", 256), strings.Repeat("x", 257)}, nevers()[:2], evers())
	var l []api.Wish
	for _, text := range texts {
		for _, at := range someTimes() {
			for _, name := range []uint32{0, 1, 7, math.MaxUint32} {
				l = append(l, api.Wish{Name: name, Text: text, At: at, Overlap: 1, Catch: 2, Retries: 3})
			}
		}
		for _, at := range []int64{0, 60} {
			for _, n := range someNumbers() {
				l = append(l,
					api.Wish{Name: 7, Text: text, At: at, Overlap: n},
					api.Wish{Name: 7, Text: text, At: at, Catch: n},
					api.Wish{Name: 7, Text: text, At: at, Retries: n},
					api.Wish{Name: 7, Text: text, At: at, Overlap: n, Catch: n, Retries: n},
					api.Wish{Text: text, At: at, Retries: n})
			}
		}
	}
	return l
}

// jobs are jobs of all sorts: those that may be, and those that may not in one thing, two, or many.
func jobs(t *testing.T) []api.Job {
	crons := wrongCrons()
	for _, text := range slices.Concat(nevers(), evers()) {
		crons = append(crons, mustRead(t, text))
	}
	var l []api.Job
	for _, c := range crons {
		for _, once := range []bool{false, true} {
			for _, at := range someTimes() {
				for _, name := range []uint32{0, 1, math.MaxUint32} {
					l = append(l, api.Job{Name: name, Once: once, Cron: c, At: at, Overlap: 1, Catch: 1, Retries: 1})
				}
			}
			for _, n := range someNumbers() {
				l = append(l,
					api.Job{Name: 7, Once: once, Cron: c, Overlap: n},
					api.Job{Name: 7, Once: once, Cron: c, Catch: n},
					api.Job{Name: 7, Once: once, Cron: c, Retries: n},
					api.Job{Name: 7, Once: once, Cron: c, Overlap: n, Catch: n, Retries: n},
					api.Job{Once: once, Cron: c, Catch: n})
			}
		}
	}
	return l
}

// someJobs are jobs that may be: one of each text, and those that are Once at each time.
func someJobs(t *testing.T) []api.Job {
	var l []api.Job
	for i, text := range evers() {
		l = append(l, mustOf(t, api.Wish{Name: uint32(i + 1), Text: text, Overlap: i % 2, Catch: i % 3, Retries: i % 4}))
	}
	for i, at := range someTimes() {
		if within(at, 0, lastTime) {
			l = append(l, mustOf(t, api.Wish{Name: uint32(i + 1), At: at, Overlap: i % 2, Catch: i % 3, Retries: i % 4}))
		}
	}
	return l
}

// P10.1: what may be, and what may not, by name.
func TestCheckNamed(t *testing.T) {
	hourly, never := mustRead(t, "@hourly"), mustRead(t, "0 0 30 2 *")
	for _, q := range []struct {
		j    api.Job
		want api.Errno
	}{
		{api.Job{}, api.ErrJob},
		{api.Job{Name: 7}, api.ErrJob},
		{api.Job{Name: 7, Cron: hourly}, api.OK},
		{api.Job{Name: math.MaxUint32, Cron: hourly, Overlap: 1, Catch: 2, Retries: 3}, api.OK},
		{api.Job{Cron: hourly}, api.ErrJob},
		{api.Job{Name: 7, Cron: hourly, At: 1}, api.ErrJob},
		{api.Job{Name: 7, Cron: hourly, At: -1}, api.ErrJob},
		{api.Job{Name: 7, Cron: hourly, Once: true}, api.ErrJob},
		{api.Job{Name: 7, Cron: hourly, Once: true, At: 90}, api.ErrJob},
		{api.Job{Name: 7, Once: true}, api.OK},
		{api.Job{Name: 7, Once: true, At: 90}, api.OK},
		{api.Job{Name: 7, Once: true, At: lastTime, Overlap: 1, Catch: 2, Retries: 3}, api.OK},
		{api.Job{Name: 7, Once: true, At: lastTime + 1}, api.ErrJob},
		{api.Job{Name: 7, Once: true, At: -1}, api.ErrJob},
		{api.Job{Once: true, At: 90}, api.ErrJob},
		{api.Job{Name: 7, Once: true, At: 90, Cron: api.Cron{Minute: 1}}, api.ErrJob},
		{api.Job{Name: 7, Once: true, At: 90, Cron: api.Cron{Weekday: 1}}, api.ErrJob},
		{api.Job{Name: 7, At: 90}, api.ErrJob},
		// What never matches is told as such just if nothing else is wrong.
		{api.Job{Name: 7, Cron: never}, api.ErrNever},
		{api.Job{Name: 7, Cron: never, Overlap: 1, Catch: 2, Retries: 3}, api.ErrNever},
		{api.Job{Cron: never}, api.ErrJob},
		{api.Job{Name: 7, Cron: never, At: 1}, api.ErrJob},
		{api.Job{Name: 7, Cron: never, Once: true}, api.ErrJob},
		{api.Job{Name: 7, Cron: never, Overlap: 2}, api.ErrJob},
		{api.Job{Name: 7, Cron: never, Catch: 3}, api.ErrJob},
		{api.Job{Name: 7, Cron: never, Retries: 4}, api.ErrJob},
		{api.Job{Name: 7, Cron: never, Overlap: -1}, api.ErrJob},
		{api.Job{Name: 7, Cron: never, Catch: -1}, api.ErrJob},
		{api.Job{Name: 7, Cron: never, Retries: -1}, api.ErrJob},
	} {
		if e := job.Check(q.j); e != q.want {
			t.Errorf("Check(%+v): %d, want %d", q.j, e, q.want)
		}
	}
}

// P10.1: each Overlap, Catch and Retries that may be, with each other, and no other one.
func TestCheckNumbers(t *testing.T) {
	for _, j := range []api.Job{{Name: 1, Cron: every()}, {Name: 1, Once: true, At: 60}} {
		for _, j.Overlap = range someNumbers() {
			for _, j.Catch = range someNumbers() {
				for _, j.Retries = range someNumbers() {
					want := api.ErrJob
					if numbers(j.Name, j.Overlap, j.Catch, j.Retries) {
						want = api.OK
					}
					if e := job.Check(j); e != want {
						t.Errorf("Check(%+v): %d, want %d", j, e, want)
					}
				}
			}
		}
	}
}

// P10.1: a cron that may not be is another reason than one that never matches.
func TestCheckWrongCron(t *testing.T) {
	for _, c := range wrongCrons() {
		if e := job.Check(api.Job{Name: 7, Cron: c}); e != api.ErrJob {
			t.Errorf("Check(%x): %d", c, e)
		}
	}
	for _, text := range nevers() {
		if e := job.Check(api.Job{Name: 7, Cron: mustRead(t, text)}); e != api.ErrNever {
			t.Errorf("Check(%s): %d", text, e)
		}
	}
}

// P10.1: jobs of all sorts.
func TestCheckMany(t *testing.T) {
	told := map[api.Errno]int{}
	for _, j := range jobs(t) {
		e, want := job.Check(j), checkOf(j)
		if e != want {
			t.Errorf("Check(%+v): %d, want %d", j, e, want)
		}
		told[want]++
	}
	if told[api.OK] == 0 || told[api.ErrJob] == 0 || told[api.ErrNever] == 0 || len(told) != 3 {
		t.Errorf("not of all sorts: %v", told)
	}
}

// P10.2: what wishes say, by name, and what is told first of what is wrong with them.
func TestOfNamed(t *testing.T) {
	hourly := mustRead(t, "0 * * * *")
	long := strings.Repeat(" ", 248) + "* * * * *"
	for _, q := range []struct {
		w    api.Wish
		want api.Job
		err  api.Errno
	}{
		{api.Wish{Name: 7, Text: "@hourly", Catch: 1, Retries: 3}, api.Job{Name: 7, Cron: hourly, Catch: 1, Retries: 3}, api.OK},
		{api.Wish{Name: 7, Text: " 0  * * *   * ", Overlap: 1, Catch: 2}, api.Job{Name: 7, Cron: hourly, Overlap: 1, Catch: 2}, api.OK},
		{api.Wish{Name: 7, Text: long[1:]}, api.Job{Name: 7, Cron: every()}, api.OK},
		{api.Wish{Name: 7, At: 90}, api.Job{Name: 7, Once: true, At: 90}, api.OK},
		{api.Wish{Name: 7}, api.Job{Name: 7, Once: true}, api.OK},
		{api.Wish{Name: math.MaxUint32, At: lastTime, Overlap: 1, Catch: 2, Retries: 3}, api.Job{Name: math.MaxUint32, Once: true, At: lastTime, Overlap: 1, Catch: 2, Retries: 3}, api.OK},

		{api.Wish{}, api.Job{}, api.ErrJob},
		{api.Wish{Name: 7, At: -1}, api.Job{}, api.ErrJob},
		{api.Wish{Name: 7, At: lastTime + 1}, api.Job{}, api.ErrJob},
		{api.Wish{Text: "* * * * *"}, api.Job{}, api.ErrJob},
		{api.Wish{Name: 7, Text: "* * * * *", At: 1}, api.Job{}, api.ErrJob},
		{api.Wish{Name: 7, Text: "* * * * *", At: -1}, api.Job{}, api.ErrJob},
		{api.Wish{Name: 7, Text: "* * * * *", At: lastTime}, api.Job{}, api.ErrJob},
		{api.Wish{Name: 7, Text: "* * * * *", Overlap: 2}, api.Job{}, api.ErrJob},
		{api.Wish{Name: 7, Text: "* * * * *", Catch: 3}, api.Job{}, api.ErrJob},
		{api.Wish{Name: 7, Text: "* * * * *", Retries: 4}, api.Job{}, api.ErrJob},
		{api.Wish{Name: 7, Text: "* * * * *", Overlap: -1}, api.Job{}, api.ErrJob},
		{api.Wish{Name: 7, Text: "* * * * *", Catch: -1}, api.Job{}, api.ErrJob},
		{api.Wish{Name: 7, Text: "* * * * *", Retries: -1}, api.Job{}, api.ErrJob},

		{api.Wish{Name: 7, Text: " "}, api.Job{}, api.ErrCron},
		{api.Wish{Name: 7, Text: "* * * *"}, api.Job{}, api.ErrCron},
		{api.Wish{Name: 7, Text: "@never"}, api.Job{}, api.ErrCron},
		{api.Wish{Name: 7, Text: "0 25 * * *"}, api.Job{}, api.ErrCron},
		{api.Wish{Name: 7, Text: long}, api.Job{}, api.ErrLong},
		{api.Wish{Name: 7, Text: "0 0 31 2 *"}, api.Job{}, api.ErrNever},

		// The numbers are told ahead of the text, the text ahead of what it means.
		{api.Wish{Text: long}, api.Job{}, api.ErrJob},
		{api.Wish{Name: 7, Text: long, At: 1}, api.Job{}, api.ErrJob},
		{api.Wish{Name: 7, Text: "x", Overlap: 2}, api.Job{}, api.ErrJob},
		{api.Wish{Name: 7, Text: "x", Catch: 3}, api.Job{}, api.ErrJob},
		{api.Wish{Name: 7, Text: "0 0 31 2 *", Retries: 4}, api.Job{}, api.ErrJob},
		{api.Wish{Text: "0 0 31 2 *"}, api.Job{}, api.ErrJob},
		{api.Wish{Name: 7, Text: "0 0 31 2 *", At: 1}, api.Job{}, api.ErrJob},
		{api.Wish{Name: 7, Text: "0 0 31 2 * *"}, api.Job{}, api.ErrCron},
	} {
		if j, e := job.Of(q.w); j != q.want || e != q.err {
			t.Errorf("Of(%+v): %+v %d, want %+v %d", q.w, j, e, q.want, q.err)
		}
	}
}

// P10.2: wishes of all sorts.
func TestOfMany(t *testing.T) {
	told := map[api.Errno]int{}
	for _, w := range wishes() {
		want, err := ofOf(w)
		j, e := job.Of(w)
		if j != want || e != err {
			t.Errorf("Of(%+v): %+v %d, want %+v %d", w, j, e, want, err)
		}
		told[err]++
	}
	if told[api.OK] == 0 || told[api.ErrJob] == 0 || told[api.ErrNever] == 0 || told[api.ErrCron] == 0 || told[api.ErrLong] == 0 || len(told) != 5 {
		t.Errorf("not of all sorts: %v", told)
	}
}

// P10.2: the wishes that say jobs, by name.
func TestWishNamed(t *testing.T) {
	for text, want := range map[string]string{
		"@hourly": "0 * * * *", "@daily": "0 0 * * *", "@weekly": "0 0 * * 0", "@monthly": "0 0 1 * *", "@yearly": "0 0 1 1 *", " 0,15,30,45  9 * jan-mar MON-FRI": "*/15 9 * 1-3 1-5", "* * * * 7": "* * * * 0", "* * 29 feb *": "* * 29 2 *",
	} {
		j := mustOf(t, api.Wish{Name: 9, Text: text, Overlap: 1, Catch: 2, Retries: 3})
		if w, e := job.Wish(j); w != (api.Wish{Name: 9, Text: want, Overlap: 1, Catch: 2, Retries: 3}) || e != api.OK {
			t.Errorf("Wish of %s: %+v %d, want %s", text, w, e, want)
		}
	}
	for _, at := range []int64{0, 1, 90, lastTime} {
		if w, e := job.Wish(api.Job{Name: 9, Once: true, At: at, Overlap: 1, Catch: 1, Retries: 2}); w != (api.Wish{Name: 9, At: at, Overlap: 1, Catch: 1, Retries: 2}) || e != api.OK {
			t.Errorf("Wish of %d: %+v %d", at, w, e)
		}
	}
}

// P10.2: a job that may not be has no wish, and is told Check's error.
func TestWishMany(t *testing.T) {
	for _, j := range jobs(t) {
		err, want := checkOf(j), api.Wish{}
		if err == api.OK {
			want = api.Wish{Name: j.Name, At: j.At, Overlap: j.Overlap, Catch: j.Catch, Retries: j.Retries}
			if !j.Once {
				want.Text, _ = cron.Text(j.Cron)
			}
		}
		if w, e := job.Wish(j); w != want || e != err {
			t.Errorf("Wish(%+v): %+v %d, want %+v %d", j, w, e, want, err)
		}
	}
}

// P10.3: by name.
func TestFirstLatestNamed(t *testing.T) {
	const none = -1
	for _, q := range []struct {
		w             api.Wish
		at            int64
		first, latest int64
	}{
		{api.Wish{Name: 7, Text: "@hourly"}, 0, 3600, 0},
		{api.Wish{Name: 7, Text: "@hourly"}, 3599, 3600, 0},
		{api.Wish{Name: 7, Text: "@hourly"}, 3600, 7200, 3600},
		{api.Wish{Name: 7, Text: "@hourly"}, -1, 0, none},
		{api.Wish{Name: 7, Text: "@hourly"}, math.MinInt64, 0, none},
		{api.Wish{Name: 7, Text: "@hourly"}, lastTime, none, lastTime - 3599},
		{api.Wish{Name: 7, Text: "@hourly"}, math.MaxInt64, none, lastTime - 3599},
		{api.Wish{Name: 7, Text: "0 9 * * 1-5"}, 32400, dayLong + 32400, 32400},
		{api.Wish{Name: 7, Text: "0 0 29 2 *"}, 3981312000, 4233686400, 3981312000},
		{api.Wish{Name: 7, Text: "0 0 29 2 *"}, 3981312000 - 1, 3981312000, 3981312000 - 1461*dayLong},
		{api.Wish{Name: 7, At: 90}, 89, 90, none},
		{api.Wish{Name: 7, At: 90}, 90, none, 90},
		{api.Wish{Name: 7, At: 90}, 91, none, 90},
		{api.Wish{Name: 7, At: 90}, math.MinInt64, 90, none},
		{api.Wish{Name: 7, At: 90}, math.MaxInt64, none, 90},
		{api.Wish{Name: 7}, -1, 0, none},
		{api.Wish{Name: 7}, 0, none, 0},
		{api.Wish{Name: 7, At: lastTime}, lastTime - 1, lastTime, none},
		{api.Wish{Name: 7, At: lastTime}, lastTime, none, lastTime},
		{api.Wish{Name: 7, At: lastTime}, lastTime + 1, none, lastTime},
		// No Horizon ends what is looked for of one time.
		{api.Wish{Name: 7, At: lastTime}, 0, lastTime, none},
		{api.Wish{Name: 7, At: 1}, lastTime, none, 1},
	} {
		j := mustOf(t, q.w)
		for name, find := range map[string]func(api.Job, int64) (int64, bool){"First": job.First, "Latest": job.Latest} {
			want := q.first
			if name == "Latest" {
				want = q.latest
			}
			n, ok := find(j, q.at)
			if want == none && (n != 0 || ok) || want != none && (n != want || !ok) {
				t.Errorf("%s(%+v, %d): %d %v, want %d", name, q.w, q.at, n, ok, want)
			}
		}
	}
}

// timesOf are a job's first times in a span, so many at most: minute by minute, or the one that it has.
func timesOf(j api.Job, span [2]int64, most int) []int64 {
	var l []int64
	if j.Once {
		if most > 0 && j.At > span[0] && j.At <= span[1] {
			l = append(l, j.At)
		}
		return l
	}
	for t := max(span[0], -1); t < min(span[1], lastTime) && len(l) < most; {
		t = t - (t%60+60)%60 + 60 // the next whole minute
		if t <= span[1] && cron.At(j.Cron, t) {
			l = append(l, t)
		}
	}
	return l
}

// P10.3: jobs at times of all sorts: of a cron Next and Last, of one time that alone.
func TestFirstLatestMany(t *testing.T) {
	r := rand.New(rand.NewSource(103))
	for _, j := range someJobs(t) {
		l := slices.Concat(someTimes(), []int64{j.At - 1, j.At, j.At + 1})
		for range 40 {
			l = append(l, r.Int63n(lastTime), int64(r.Uint64())>>uint(r.Intn(64)))
		}
		for _, at := range l {
			first, after := next.Next(j.Cron, at)
			latest, until := next.Last(j.Cron, at)
			if j.Once && j.At > at {
				first, after, latest, until = j.At, true, 0, false
			} else if j.Once {
				first, after, latest, until = 0, false, j.At, true
			}
			if n, ok := job.First(j, at); n != first || ok != after {
				t.Errorf("First(%+v, %d): %d %v, want %d %v", j, at, n, ok, first, after)
			}
			if n, ok := job.Latest(j, at); n != latest || ok != until {
				t.Errorf("Latest(%+v, %d): %d %v, want %d %v", j, at, n, ok, latest, until)
			}
		}
	}
}

// P10.3, P10.4: a job that may not be has no times, and is not idle, whatever is wrong with it; what is wrong is told ahead of a most that may not be.
func TestWrongJob(t *testing.T) {
	for _, j := range jobs(t) {
		err := checkOf(j)
		if err == api.OK {
			continue
		}
		for _, at := range []int64{math.MinInt64, -1, 0, 59, lastTime, math.MaxInt64} {
			if n, ok := job.First(j, at); n != 0 || ok {
				t.Errorf("First(%+v, %d): %d %v", j, at, n, ok)
			}
			if n, ok := job.Latest(j, at); n != 0 || ok {
				t.Errorf("Latest(%+v, %d): %d %v", j, at, n, ok)
			}
			for _, span := range [][2]int64{{at, math.MaxInt64}, {math.MinInt64, at}, {at, at}} {
				for _, most := range []int{-1, 0, 2, 65} {
					if l, e := job.Times(j, span, most); len(l) != 0 || e != err {
						t.Errorf("Times(%+v, %d, %d): %v %d, want %d", j, span, most, l, e, err)
					}
				}
				if job.Idle(j, span) {
					t.Errorf("Idle(%+v, %d)", j, span)
				}
			}
		}
		if t.Failed() {
			return
		}
	}
}

// P10.4: what stands in a span, by name.
func TestTimesNamed(t *testing.T) {
	hourly, quarterly, once, first, last := api.Wish{Name: 7, Text: "@hourly"}, api.Wish{Name: 7, Text: "*/15 * * * *"}, api.Wish{Name: 7, At: 90}, api.Wish{Name: 7}, api.Wish{Name: 7, At: lastTime}
	for _, q := range []struct {
		w    api.Wish
		span [2]int64
		most int
		want []int64
	}{
		{hourly, [2]int64{0, 7200}, 9, []int64{3600, 7200}}, {hourly, [2]int64{0, 7200}, 2, []int64{3600, 7200}}, {hourly, [2]int64{0, 7200}, 1, []int64{3600}}, {hourly, [2]int64{0, 7200}, 0, nil}, {hourly, [2]int64{-1, 7199}, 9, []int64{0, 3600}}, {hourly, [2]int64{3600, 7199}, 9, nil}, {hourly, [2]int64{3599, 3600}, 9, []int64{3600}}, {hourly, [2]int64{3600, 3600}, 9, nil}, {hourly, [2]int64{7200, 0}, 9, nil}, {hourly, [2]int64{math.MinInt64, -1}, 9, nil}, {hourly, [2]int64{math.MaxInt64, math.MinInt64}, 9, nil}, {hourly, [2]int64{math.MinInt64, math.MaxInt64}, 3, []int64{0, 3600, 7200}}, {hourly, [2]int64{lastTime - 3600, math.MaxInt64}, 64, []int64{lastTime - 3599}},
		{quarterly, [2]int64{0, 3600}, 2, []int64{900, 1800}}, {quarterly, [2]int64{0, 3600}, 9, []int64{900, 1800, 2700, 3600}},
		{api.Wish{Name: 7, Text: "0 0 29 2 *"}, [2]int64{3981312000 - 1, math.MaxInt64}, 3, []int64{3981312000, 4233686400, 4233686400 + 1461*dayLong}},
		{once, [2]int64{89, 90}, 1, []int64{90}}, {once, [2]int64{89, 90}, 64, []int64{90}}, {once, [2]int64{89, 90}, 0, nil}, {once, [2]int64{90, 91}, 9, nil}, {once, [2]int64{0, 89}, 9, nil}, {once, [2]int64{90, 90}, 9, nil}, {once, [2]int64{91, 89}, 9, nil}, {once, [2]int64{90, 89}, 9, nil}, {once, [2]int64{89, 89}, 9, nil}, {once, [2]int64{math.MinInt64, math.MaxInt64}, 64, []int64{90}}, {once, [2]int64{math.MaxInt64, math.MinInt64}, 64, nil},
		{first, [2]int64{-1, 0}, 64, []int64{0}}, {first, [2]int64{0, lastTime}, 64, nil}, {last, [2]int64{0, math.MaxInt64}, 64, []int64{lastTime}}, {last, [2]int64{lastTime, math.MaxInt64}, 64, nil}, {last, [2]int64{0, lastTime - 1}, 64, nil},
	} {
		j := mustOf(t, q.w)
		if l, e := job.Times(j, q.span, q.most); !slices.Equal(l, q.want) || e != api.OK {
			t.Errorf("Times(%+v, %d, %d): %v %d, want %v", q.w, q.span, q.most, l, e, q.want)
		}
		if is := job.Idle(j, q.span); q.most > 0 && is != (len(q.want) == 0) {
			t.Errorf("Idle(%+v, %d): %v", q.w, q.span, is)
		}
	}
}

// P10.4: how many may be asked for, from none to MaxSome, whatever the job and the span are.
func TestTimesMost(t *testing.T) {
	minutely := mustOf(t, api.Wish{Name: 7, Text: "* * * * *"})
	for _, j := range someJobs(t) {
		for _, span := range [][2]int64{{0, 1}, {-1, lastTime}, {5, 4}, {math.MinInt64, math.MaxInt64}} {
			for _, most := range []int{math.MinInt, -65, -2, -1, 65, 66, 1000, 1 << 32, math.MaxInt} {
				if l, e := job.Times(j, span, most); len(l) != 0 || e != api.ErrArg {
					t.Errorf("Times(%+v, %d, %d): %v %d", j, span, most, l, e)
				}
			}
		}
	}
	for most := range 65 {
		l, e := job.Times(minutely, [2]int64{0, lastTime}, most)
		if len(l) != most || e != api.OK {
			t.Errorf("Times of %d: %v %d", most, l, e)
		}
		for i, n := range l {
			if n != 60*int64(i+1) {
				t.Errorf("Times of %d: %v", most, l)
			}
		}
	}
}

// P10.4: jobs and spans of all sorts, held against each minute.
func TestTimesMany(t *testing.T) {
	r := rand.New(rand.NewSource(104))
	l := someJobs(t)
	for range 3000 {
		j := l[r.Intn(len(l))]
		from := r.Int63n(lastTime)
		switch r.Intn(4) {
		case 0:
			from = j.At + int64(r.Intn(5)) - 2
		case 1:
			from = lastTime - r.Int63n(3*dayLong)
		case 2:
			if n, ok := job.First(j, from); ok {
				from = n + int64(r.Intn(3)) - 1
			}
		}
		span, most := [2]int64{from, from + r.Int63n(2*dayLong) - 100}, r.Intn(12)
		want := timesOf(j, span, most)
		if l, e := job.Times(j, span, most); !slices.Equal(l, want) || e != api.OK {
			t.Fatalf("Times(%+v, %d, %d): %v %d, want %v", j, span, most, l, e, want)
		}
		if is := job.Idle(j, span); is != (len(timesOf(j, span, 1)) == 0) {
			t.Fatalf("Idle(%+v, %d): %v", j, span, is)
		}
	}
}

// P10.4: who is idle, by name.
func TestIdleNamed(t *testing.T) {
	hourly := mustOf(t, api.Wish{Name: 7, Text: "@hourly"})
	once := mustOf(t, api.Wish{Name: 7, At: 90})
	for _, q := range []struct {
		j    api.Job
		span [2]int64
		want bool
	}{
		{hourly, [2]int64{0, 3599}, true}, {hourly, [2]int64{0, 3600}, false}, {hourly, [2]int64{3600, 3600}, true}, {hourly, [2]int64{3599, 3600}, false}, {hourly, [2]int64{7200, 0}, true}, {hourly, [2]int64{-1, 0}, false}, {hourly, [2]int64{math.MinInt64, -1}, true}, {hourly, [2]int64{lastTime - 3599, math.MaxInt64}, true}, {hourly, [2]int64{lastTime - 3600, math.MaxInt64}, false}, {hourly, [2]int64{math.MinInt64, math.MaxInt64}, false},
		{once, [2]int64{0, 89}, true}, {once, [2]int64{89, 90}, false}, {once, [2]int64{90, 91}, true}, {once, [2]int64{91, 0}, true}, {once, [2]int64{math.MinInt64, math.MaxInt64}, false},
		{api.Job{}, [2]int64{0, 0}, false}, {api.Job{Name: 7, Cron: hourly.Cron, At: 1}, [2]int64{0, 3599}, false}, {api.Job{Once: true, At: 90}, [2]int64{0, 89}, false}, {api.Job{Name: 7, Cron: mustRead(t, "0 0 30 2 *")}, [2]int64{0, 3599}, false},
	} {
		if is := job.Idle(q.j, q.span); is != q.want {
			t.Errorf("Idle(%+v, %d): %v", q.j, q.span, is)
		}
	}
}

// R3: what Times answers is new memory each time.
func TestTimesNew(t *testing.T) {
	for _, j := range someJobs(t) {
		a, _ := job.Times(j, [2]int64{-1, lastTime}, 9)
		b, _ := job.Times(j, [2]int64{-1, lastTime}, 9)
		want := slices.Clone(b)
		clear(a[:cap(a)])
		if !slices.Equal(b, want) {
			t.Errorf("Times was changed by another answer: %v, want %v", b, want)
		}
	}
}

// someJob is a job that may be.
func someJob(r *rand.Rand) api.Job {
	for {
		j := api.Job{Name: r.Uint32(), Overlap: r.Intn(2), Catch: r.Intn(3), Retries: r.Intn(4)}
		if r.Intn(5) == 0 {
			j.Once, j.At = true, r.Int63n(lastTime+1)
		} else {
			for kind, m := range fields(&j.Cron) {
				*m = api.Mask(r.Uint64()) & wholes[kind]
				switch r.Intn(3) {
				case 0:
					*m = wholes[kind]
				case 1:
					*m = 1 << r.Intn(60) & wholes[kind]
				}
			}
		}
		if checkOf(j) == api.OK {
			return j
		}
	}
}

// P10.5: Of of Wish is the job, Wish of Of a wish that says the same.
func TestThereAndBack(t *testing.T) {
	r := rand.New(rand.NewSource(105))
	l := someJobs(t)
	for range 3000 {
		l = append(l, someJob(r))
	}
	for _, j := range l {
		w, e := job.Wish(j)
		if e != api.OK {
			t.Fatalf("Wish(%+v): %d", j, e)
		}
		if k, e := job.Of(w); k != j || e != api.OK || job.Check(k) != api.OK {
			t.Fatalf("Of(%+v): %+v %d, want %+v", w, k, e, j)
		}
	}
	for _, w := range wishes() {
		j, e := job.Of(w)
		if e != api.OK {
			continue
		}
		back, e := job.Wish(j)
		if e != api.OK || back.Name != w.Name || back.At != w.At || back.Overlap != w.Overlap || back.Catch != w.Catch || back.Retries != w.Retries || (back.Text == "") != (w.Text == "") {
			t.Fatalf("Wish of Of(%+v): %+v %d", w, back, e)
		}
		if k, e := job.Of(back); k != j || e != api.OK {
			t.Fatalf("Of(%+v): %+v %d, want %+v", back, k, e, j)
		}
	}
}

// P10.5: First is the first of Times, Latest the last one, wherever there is one; Idle just if there is none; what is Once has one time.
func TestFollows(t *testing.T) {
	r := rand.New(rand.NewSource(106))
	for range 3000 {
		j := someJob(r)
		from := r.Int63n(lastTime) - dayLong
		if r.Intn(3) == 0 {
			from = j.At - int64(r.Intn(3))
		}
		all, e := job.Times(j, [2]int64{from, from + 1<<uint(r.Intn(37))}, 9)
		if e != api.OK {
			t.Fatalf("Times(%+v, %d): %d", j, from, e)
		}
		if len(all) == 0 {
			continue
		}
		span := [2]int64{from, all[len(all)-1] + int64(r.Intn(2)*r.Intn(60))}
		if n, ok := job.First(j, span[0]); n != all[0] || !ok || job.Idle(j, span) || !job.Idle(j, [2]int64{from, n - 1}) {
			t.Fatalf("First(%+v, %d): %d %v, of %v", j, span[0], n, ok, all)
		}
		if n, ok := job.Latest(j, span[1]); n != all[len(all)-1] || !ok || !job.Idle(j, [2]int64{n, span[1]}) {
			t.Fatalf("Latest(%+v, %d): %d %v, of %v", j, span[1], n, ok, all)
		}
		if ever, _ := job.Times(j, [2]int64{math.MinInt64, math.MaxInt64}, 64); j.Once && !slices.Equal(ever, []int64{j.At}) {
			t.Fatalf("Times(%+v): %v", j, ever)
		}
	}
}

// R1: all arguments, whatever they are.
func TestAnything(t *testing.T) {
	r := rand.New(rand.NewSource(107))
	for range 20000 {
		j := someJob(r)
		for range r.Intn(3) {
			switch r.Intn(8) {
			case 0:
				j.Name = 0
			case 1:
				j.Once = !j.Once
			case 2:
				j.At = int64(r.Uint64()) >> uint(r.Intn(64))
			case 3:
				j.Overlap = int(r.Uint64()) >> uint(r.Intn(64))
			case 4:
				j.Catch = int(r.Uint64()) >> uint(r.Intn(64))
			case 5:
				j.Retries = int(r.Uint64()) >> uint(r.Intn(64))
			default:
				*fields(&j.Cron)[r.Intn(5)] = api.Mask(r.Uint64())
			}
		}
		at, to := int64(r.Uint64())>>uint(r.Intn(64)), int64(r.Uint64())>>uint(r.Intn(64))
		err := checkOf(j)
		_, after := job.First(j, at)
		_, until := job.Latest(j, at)
		l, e := job.Times(j, [2]int64{at, to}, 3)
		if e != err || job.Check(j) != err || err != api.OK && (after || until || len(l) != 0 || job.Idle(j, [2]int64{at, to})) || err == api.OK && job.Idle(j, [2]int64{at, to}) != (len(l) == 0) {
			t.Fatalf("%+v from %d to %d: %v %d %v %v, want %d", j, at, to, l, e, after, until, err)
		}
	}
}
