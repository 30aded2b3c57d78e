package next_test

import (
	"math"
	"math/rand"
	"slices"
	"sync"
	"testing"

	"curfew/api"
	"curfew/cron"
	"curfew/next"
)

// The whole fields, by the chapters' ends.
const (
	allMinutes  api.Mask = 1<<60 - 1
	allHours    api.Mask = 1<<24 - 1
	allDays     api.Mask = 1<<32 - 2
	allMonths   api.Mask = 1<<13 - 2
	allWeekdays api.Mask = 1<<7 - 1
)

const (
	dayLong  = 86400
	lastTime = 253402300799 // 9999-12-31 23:59:59
	lastDay  = 2932896
	horizon  = 2922
)

// wholes are the whole fields, in the order of a text.
var wholes = [5]api.Mask{allMinutes, allHours, allDays, allMonths, allWeekdays}

// of is the mask of these numbers.
func of(l ...int) api.Mask {
	var m api.Mask
	for _, n := range l {
		m |= 1 << n
	}
	return m
}

// has tells whether the mask has n.
func has(m api.Mask, n int) bool { return m>>n&1 == 1 }

// every is the cron that has each minute.
func every() api.Cron {
	return api.Cron{Minute: allMinutes, Hour: allHours, Day: allDays, Month: allMonths, Weekday: allWeekdays}
}

// fields are the cron's, in the order of a text.
func fields(c *api.Cron) [5]*api.Mask {
	return [5]*api.Mask{&c.Minute, &c.Hour, &c.Day, &c.Month, &c.Weekday}
}

// with is the cron with another mask at that place of a text.
func with(c api.Cron, kind int, m api.Mask) api.Cron {
	*fields(&c)[kind] = m
	return c
}

// may tells whether the cron may be.
func may(c api.Cron) bool {
	for kind, m := range fields(&c) {
		if *m == 0 || *m&^wholes[kind] != 0 {
			return false
		}
	}
	return true
}

// wrongCrons are crons that may not be: one field has no number, or one beyond its ends.
func wrongCrons() []api.Cron {
	l := []api.Cron{{}, {Minute: ^api.Mask(0), Hour: ^api.Mask(0), Day: ^api.Mask(0), Month: ^api.Mask(0), Weekday: ^api.Mask(0)}}
	for kind, whole := range wholes {
		l = append(l, with(every(), kind, 0), with(every(), kind, ^api.Mask(0)), with(api.Cron{}, kind, whole))
		for n := range 64 {
			if !has(whole, n) {
				l = append(l, with(every(), kind, of(n)), with(every(), kind, whole|of(n)))
			}
		}
	}
	return l
}

// mustRead is the cron of a text that has to be one.
func mustRead(t *testing.T, text string) api.Cron {
	t.Helper()
	c, at, e := cron.Read(text)
	if e != api.OK {
		t.Fatalf("Read(%q): %d %d", text, at, e)
	}
	return c
}

// day is what a cron asks of a day.
type day struct {
	month, day, weekday int8
}

// long is how long a month is, by the words of the calendar.
func long(year, month int) int {
	switch month {
	case 4, 6, 9, 11:
		return 30
	case 2:
		if year%400 == 0 || year%4 == 0 && year%100 != 0 {
			return 29
		}
		return 28
	}
	return 31
}

// calendar are all days there are, by their numbers, counted one by one from 1970-01-01, a Thursday, on.
var calendar = sync.OnceValue(func() []day {
	var l []day
	weekday := 4
	for year := 1970; year <= 9999; year++ {
		for month := 1; month <= 12; month++ {
			for n := 1; n <= long(year, month); n++ {
				l = append(l, day{int8(month), int8(n), int8(weekday)})
				weekday = (weekday + 1) % 7
			}
		}
	}
	return l
})

// fits tells whether the day of that number fits a cron that may be.
func fits(c api.Cron, n int) bool {
	d := calendar()[n]
	byDay, byWeekday := has(c.Day, int(d.day)), has(c.Weekday, int(d.weekday))
	switch {
	case !has(c.Month, int(d.month)):
		return false
	case c.Day == allDays || c.Weekday == allWeekdays:
		return byDay && byWeekday
	}
	return byDay || byWeekday
}

// dayOf is the day of a time; of one behind all that of the last one.
func dayOf(t int64) int {
	switch {
	case t < 0:
		return 0
	case t > lastTime:
		return lastDay
	}
	return int(t / dayLong)
}

// nextOf is what Next has to tell, by the chapter's words: day by day, minute by minute.
func nextOf(c api.Cron, after int64) (int64, bool) {
	if !may(c) {
		return 0, false
	}
	for n := dayOf(after); n <= lastDay && n <= dayOf(after)+horizon; n++ {
		for minute := 0; minute < 1440 && fits(c, n); minute++ {
			if t := int64(n)*dayLong + int64(minute)*60; t > after && has(c.Hour, minute/60) && has(c.Minute, minute%60) {
				return t, true
			}
		}
	}
	return 0, false
}

// lastOf is what Last has to tell, by the chapter's words: day by day, minute by minute, backwards.
func lastOf(c api.Cron, until int64) (int64, bool) {
	if !may(c) {
		return 0, false
	}
	for n := dayOf(until); n >= 0 && n >= dayOf(until)-horizon; n-- {
		for minute := 1439; minute >= 0 && fits(c, n); minute-- {
			if t := int64(n)*dayLong + int64(minute)*60; t <= until && has(c.Hour, minute/60) && has(c.Minute, minute%60) {
				return t, true
			}
		}
	}
	return 0, false
}

// both holds Next and Last against the chapter's words.
func both(t *testing.T, c api.Cron, at int64) {
	t.Helper()
	want, there := nextOf(c, at)
	if n, ok := next.Next(c, at); n != want || ok != there {
		t.Errorf("Next(%x, %d): %d %v, want %d %v", c, at, n, ok, want, there)
	}
	want, there = lastOf(c, at)
	if n, ok := next.Last(c, at); n != want || ok != there {
		t.Errorf("Last(%x, %d): %d %v, want %d %v", c, at, n, ok, want, there)
	}
}

// someField is a field of a kind: a thin one, a thick one, the whole one, or one number.
func someField(r *rand.Rand, kind int) api.Mask {
	for {
		m := api.Mask(r.Uint64())
		switch r.Intn(6) {
		case 0:
			m &= api.Mask(r.Uint64()) & api.Mask(r.Uint64())
		case 1:
			m |= api.Mask(r.Uint64())
		case 2:
			m = 1 << r.Intn(60)
		case 3:
			m = wholes[kind]
		case 4:
			m = wholes[kind] &^ (1 << r.Intn(60))
		}
		if m &= wholes[kind]; m != 0 {
			return m
		}
	}
}

// someCron is a cron that may be; one of three has only days that are rare.
func someCron(r *rand.Rand) api.Cron {
	var c api.Cron
	for kind, m := range fields(&c) {
		*m = someField(r, kind)
	}
	if r.Intn(3) == 0 {
		c.Day, c.Month, c.Weekday = of(28+r.Intn(4)), of(1+r.Intn(12)), allWeekdays
	}
	return c
}

// edges are times around which something ends, and what is far from all times.
func edges() []int64 {
	l := []int64{math.MinInt64, math.MinInt64 + 1, -1 << 40, math.MaxInt64 - 1, math.MaxInt64, math.MaxInt64 / 60 * 60, 1 << 40}
	for _, from := range []int64{0, 789 * dayLong, horizon * dayLong, 3981312000, 4102444800, (lastDay - horizon) * dayLong, lastTime + 1, lastTime + 1 + horizon*dayLong, -horizon * dayLong} {
		for _, far := range []int64{-dayLong, -3600, -61, -60, -59, -2, -1, 0, 1, 2, 59, 60, 61, 3600, dayLong} {
			l = append(l, from+far)
		}
	}
	return l
}

// P8.1: what Next tells, by name.
func TestNextNamed(t *testing.T) {
	const none = -1
	for _, q := range []struct {
		text        string
		after, want int64
	}{
		{"0 9 * * 1-5", 0, 32400}, {"0 9 * * 1-5", 32399, 32400}, {"0 9 * * 1-5", 32400, dayLong + 32400}, {"0 9 * * 1-5", dayLong + 32400, 4*dayLong + 32400}, {"0 9 * * 1-5", -1, 32400},
		{"* * * * *", -1, 0}, {"* * * * *", 0, 60}, {"* * * * *", 1, 60}, {"* * * * *", 59, 60}, {"* * * * *", 60, 120}, {"* * * * *", dayLong - 60, dayLong}, {"* * * * *", dayLong - 1, dayLong},
		{"@hourly", 3599, 3600}, {"@hourly", 3600, 7200}, {"@hourly", 23 * 3600, dayLong}, {"59 23 * * *", dayLong - 60, 2*dayLong - 60}, {"59 23 * * *", dayLong - 61, dayLong - 60}, {"30 5,7 * * *", 5*3600 + 1800, 7*3600 + 1800}, {"5,30 5,7 * * *", 5*3600 + 1800, 7*3600 + 300},
		{"@yearly", -1, 0}, {"@yearly", 0, 365 * dayLong}, {"@monthly", 0, 31 * dayLong}, {"@weekly", 0, 3 * dayLong}, {"@daily", 0, dayLong}, {"0 0 13 * 5", 0, dayLong}, {"0 0 13 * 5", 8 * dayLong, 12 * dayLong},
		// The rarest days: a leap year's, over a century that is none.
		{"0 0 29 2 *", -1, 789 * dayLong}, {"0 0 29 2 *", 789*dayLong - 1, 789 * dayLong}, {"0 0 29 2 *", 789 * dayLong, (789 + 1461) * dayLong}, {"0 0 29 2 *", 3981139200, 3981312000}, {"0 0 29 2 *", 3981312000, 4233686400}, {"59 23 29 2 *", 3981312000 + dayLong - 60, 4233686400 + dayLong - 60},
		{"0 0 29 2 *", lastTime, none}, {"0 0 29 2 *", (lastDay - 1400) * dayLong, none}, {"0 0 29 2 *", (lastDay - 1402) * dayLong, (lastDay - 1401) * dayLong},
		{"0 0 30 2 *", 0, none}, {"* * 31 2,4,6,9,11 *", 0, none}, {"* * 30,31 2 *", 3981139200, none}, {"* * 30 2 *", math.MinInt64, none}, {"0 0 30 2 0", 0, 31 * dayLong}, {"0 0 31 4 1", 0, 95 * dayLong},
		// Ahead of all times, and behind all.
		{"* * * * *", math.MinInt64, 0}, {"5 0 * * *", math.MinInt64, 300}, {"5 0 * * *", -86400 * 5000, 300}, {"0 0 31 12 *", math.MinInt64, 364 * dayLong}, {"0 0 29 2 *", math.MinInt64, 789 * dayLong},
		{"* * * * *", lastTime, none}, {"* * * * *", lastTime - 59, none}, {"* * * * *", lastTime - 60, lastTime - 59}, {"* * * * *", lastTime + 1, none}, {"* * * * *", math.MaxInt64, none}, {"@yearly", lastTime - 365*dayLong, (lastDay - 364) * dayLong}, {"@yearly", lastTime - 364*dayLong, none},
	} {
		n, ok := next.Next(mustRead(t, q.text), q.after)
		if q.want == none && (n != 0 || ok) || q.want != none && (n != q.want || !ok) {
			t.Errorf("Next(%s, %d): %d %v, want %d", q.text, q.after, n, ok, q.want)
		}
	}
}

// P8.1: what Last tells, by name.
func TestLastNamed(t *testing.T) {
	const none = -1
	for _, q := range []struct {
		text        string
		until, want int64
	}{
		{"*/15 * * * *", 3599, 2700}, {"*/15 * * * *", 3600, 3600}, {"*/15 * * * *", 0, 0}, {"*/15 * * * *", 899, 0}, {"*/15 * * * *", -1, none},
		{"* * * * *", 59, 0}, {"* * * * *", 60, 60}, {"* * * * *", dayLong, dayLong}, {"* * * * *", dayLong - 1, dayLong - 60}, {"@hourly", dayLong - 1, 23 * 3600}, {"59 23 * * *", 2*dayLong - 61, dayLong - 60}, {"59 23 * * *", 2*dayLong - 60, 2*dayLong - 60}, {"59 23 * * *", dayLong - 61, none}, {"30 5,7 * * *", 7*3600 + 1799, 5*3600 + 1800}, {"5,30 5,7 * * *", 7*3600 + 299, 5*3600 + 1800},
		{"0 9 * * 1-5", 32399, none}, {"0 9 * * 1-5", 32400, 32400}, {"0 9 * * 1-5", 4 * dayLong, dayLong + 32400}, {"@yearly", 365*dayLong - 1, 0}, {"@yearly", 365 * dayLong, 365 * dayLong}, {"0 0 13 * 5", 12*dayLong - 1, 8 * dayLong}, {"0 0 13 * 5", 14 * dayLong, 12 * dayLong},
		{"0 0 29 2 *", 789*dayLong - 1, none}, {"0 0 29 2 *", 789 * dayLong, 789 * dayLong}, {"0 0 29 2 *", 4233686399, 3981312000}, {"0 0 29 2 *", 4233686400, 4233686400}, {"59 23 29 2 *", 4233686400 + dayLong - 61, 3981312000 + dayLong - 60},
		{"0 0 30 2 *", lastTime, none}, {"* * 31 2,4,6,9,11 *", 4233686400, none}, {"* * 30 2 *", math.MaxInt64, none},
		// Behind all times, and ahead of all.
		{"* * * * *", lastTime, lastTime - 59}, {"* * * * *", lastTime + 1, lastTime - 59}, {"* * * * *", math.MaxInt64, lastTime - 59}, {"0 0 29 2 *", math.MaxInt64, (lastDay - 1401) * dayLong}, {"@yearly", math.MaxInt64, (lastDay - 364) * dayLong}, {"0 0 29 2 *", lastTime + 4000*dayLong, (lastDay - 1401) * dayLong},
		{"* * * * *", -1, none}, {"* * * * *", -60, none}, {"* * * * *", math.MinInt64, none},
	} {
		n, ok := next.Last(mustRead(t, q.text), q.until)
		if q.want == none && (n != 0 || ok) || q.want != none && (n != q.want || !ok) {
			t.Errorf("Last(%s, %d): %d %v, want %d", q.text, q.until, n, ok, q.want)
		}
	}
}

// P8.1: crons by name, at all edges.
func TestEdges(t *testing.T) {
	for _, text := range []string{
		"* * * * *", "0 0 * * *", "59 23 * * *", "0 0 1 1 *", "59 23 31 12 *", "0 12 29 2 *", "0 0 30 2 *", "1 0 31 1 *", "0 0 * * 5", "30 11 * 2 4", "7,50 3,21 13 * 5", "0 0 31 2 6", "* 23 28-31 2 *",
	} {
		c := mustRead(t, text)
		for _, at := range edges() {
			both(t, c, at)
		}
	}
}

// P8.1: crons and times of all sorts; and those around what was told.
func TestMany(t *testing.T) {
	r := rand.New(rand.NewSource(81))
	for range 3000 {
		c := someCron(r)
		at := r.Int63n(lastTime)
		if r.Intn(3) == 0 {
			at = r.Int63n(100 * 365 * dayLong)
		}
		both(t, c, at)
		for _, find := range []func(api.Cron, int64) (int64, bool){next.Next, next.Last} {
			if n, ok := find(c, at); ok {
				both(t, c, n-1)
				both(t, c, n)
				both(t, c, n+1)
			}
		}
		if t.Failed() {
			return
		}
	}
}

// P8.1: each second of some minutes, and each minute of a day, so that both stand on the right side of what they are handed.
func TestSeconds(t *testing.T) {
	for _, text := range []string{"* * * * *", "*/2 * * * *", "0 9-17/4 * * *", "59 23 * * *", "0 0 * * *", "3,57 0,11,23 * * 4"} {
		c := mustRead(t, text)
		for at := int64(-130); at < 200; at++ {
			both(t, c, at)
			both(t, c, dayLong+at)
		}
		for at := int64(0); at <= 2*dayLong; at += 60 {
			both(t, c, at)
			both(t, c, at-1)
		}
	}
}

// P8.1 to P8.3: a cron that may not be has no times.
func TestWrongCron(t *testing.T) {
	for _, c := range wrongCrons() {
		for _, at := range []int64{math.MinInt64, -1, 0, 59, dayLong, 3981312000, lastTime, math.MaxInt64} {
			if n, ok := next.Next(c, at); n != 0 || ok {
				t.Errorf("Next(%x, %d): %d %v", c, at, n, ok)
			}
			if n, ok := next.Last(c, at); n != 0 || ok {
				t.Errorf("Last(%x, %d): %d %v", c, at, n, ok)
			}
			// It is told ahead of a most that may not be.
			for _, most := range []int{math.MinInt, -1, 0, 1, 64, 65, math.MaxInt} {
				if l, e := next.Some(c, [2]int64{at, at + 100}, most); len(l) != 0 || e != api.ErrCron {
					t.Errorf("Some(%x, %d, %d): %v %d", c, at, most, l, e)
				}
			}
		}
		if next.Ever(c) {
			t.Errorf("Ever(%x)", c)
		}
	}
}

// P8.2: which days there are in which months, each alone; a weekday beside a day is one that ever comes.
func TestEver(t *testing.T) {
	longest := []int{0, 31, 29, 31, 30, 31, 30, 31, 31, 30, 31, 30, 31}
	for month := 1; month <= 12; month++ {
		for n := 1; n <= 31; n++ {
			c := with(with(every(), 2, of(n)), 3, of(month))
			if is := next.Ever(c); is != (n <= longest[month]) {
				t.Errorf("Ever of day %d, month %d: %v", n, month, is)
			}
			for weekday := range 7 {
				if !next.Ever(with(c, 4, of(weekday))) || !next.Ever(with(c, 4, allWeekdays&^of(weekday))) || !next.Ever(with(with(c, 4, of(weekday)), 2, allDays)) {
					t.Errorf("Ever of day %d, month %d, weekday %d", n, month, weekday)
				}
			}
		}
	}
}

// P8.2: each row of months with the days that not all of them have; one that comes is enough.
func TestEverMonths(t *testing.T) {
	for m := api.Mask(2); m <= allMonths; m += 2 {
		c := with(every(), 3, m)
		for _, q := range []struct {
			days api.Mask
			want bool
		}{
			{of(31), m&of(1, 3, 5, 7, 8, 10, 12) != 0}, {of(30), m != of(2)}, {of(30, 31), m != of(2)}, {of(29), true}, {of(29, 31), true}, {of(1, 31), true},
		} {
			if is := next.Ever(with(c, 2, q.days)); is != q.want {
				t.Errorf("Ever of days %x, months %x: %v", q.days, m, is)
			}
		}
	}
}

// P8.2: by name, and whatever the minutes and hours are.
func TestEverNamed(t *testing.T) {
	for text, want := range map[string]bool{
		"0 0 30 2 *": false, "* * 31 2 *": false, "* * 30-31 2 *": false, "0 0 30 2 0": true, "0 0 30 2 0-6": false, "0 0 30 2 1-5": true, "59 23 29 2 *": true, "0 0 31 4,6,9,11 *": false, "0 0 31 4,6,9,12 *": true, "@yearly": true, "59 23 31 12 *": true, "* * * * *": true, "0 0 * 2 3": true,
	} {
		if is := next.Ever(mustRead(t, text)); is != want {
			t.Errorf("Ever(%s): %v", text, is)
		}
	}
	r := rand.New(rand.NewSource(82))
	for range 2000 {
		c := someCron(r)
		if _, want := nextOf(c, -1); next.Ever(c) != want {
			t.Errorf("Ever(%x): %v", c, !want)
		}
	}
}

// someOf is what Some has to tell: what stands in the span, one time behind the other.
func someOf(c api.Cron, span [2]int64, most int) []int64 {
	var l []int64
	for at := span[0]; len(l) < most; at = l[len(l)-1] {
		n, ok := nextOf(c, at)
		if !ok || n > span[1] {
			break
		}
		l = append(l, n)
	}
	return l
}

// P8.3: what stands in a span, by name.
func TestSomeNamed(t *testing.T) {
	for _, q := range []struct {
		text string
		span [2]int64
		most int
		want []int64
	}{
		{"*/15 * * * *", [2]int64{0, 3600}, 2, []int64{900, 1800}}, {"*/15 * * * *", [2]int64{0, 3600}, 9, []int64{900, 1800, 2700, 3600}}, {"*/15 * * * *", [2]int64{0, 3600}, 4, []int64{900, 1800, 2700, 3600}}, {"*/15 * * * *", [2]int64{0, 3599}, 9, []int64{900, 1800, 2700}}, {"*/15 * * * *", [2]int64{-1, 3599}, 9, []int64{0, 900, 1800, 2700}}, {"*/15 * * * *", [2]int64{899, 900}, 9, []int64{900}}, {"*/15 * * * *", [2]int64{900, 1799}, 9, nil},
		// None are asked for, or none can be there.
		{"* * * * *", [2]int64{0, 3600}, 0, nil}, {"* * * * *", [2]int64{60, 60}, 64, nil}, {"* * * * *", [2]int64{60, 59}, 64, nil}, {"* * * * *", [2]int64{3600, 0}, 64, nil}, {"* * * * *", [2]int64{math.MaxInt64, math.MinInt64}, 64, nil}, {"* * * * *", [2]int64{math.MinInt64, -1}, 64, nil}, {"* * * * *", [2]int64{lastTime, math.MaxInt64}, 64, nil}, {"0 0 30 2 *", [2]int64{math.MinInt64, math.MaxInt64}, 64, nil},
		// The ends of all times.
		{"@daily", [2]int64{math.MinInt64, math.MaxInt64}, 3, []int64{0, dayLong, 2 * dayLong}}, {"@daily", [2]int64{math.MinInt64, 0}, 3, []int64{0}}, {"0 * * * *", [2]int64{lastTime - 2*3600, math.MaxInt64}, 64, []int64{lastTime + 1 - 2*3600, lastTime + 1 - 3600}}, {"@yearly", [2]int64{lastTime - 400*dayLong, math.MaxInt64}, 64, []int64{(lastDay - 364) * dayLong}},
		// Each one may be a whole Horizon behind the one ahead.
		{"0 0 29 2 *", [2]int64{3981312000 - 1, math.MaxInt64}, 3, []int64{3981312000, 4233686400, 4233686400 + 1461*dayLong}},
	} {
		if l, e := next.Some(mustRead(t, q.text), q.span, q.most); !slices.Equal(l, q.want) || e != api.OK {
			t.Errorf("Some(%s, %d, %d): %v %d, want %v", q.text, q.span, q.most, l, e, q.want)
		}
	}
}

// P8.3: how many may be asked for, from none to MaxSome, whatever the span is.
func TestSomeMost(t *testing.T) {
	for _, span := range [][2]int64{{0, 1}, {0, lastTime}, {5, 4}, {math.MinInt64, math.MaxInt64}} {
		for _, most := range []int{math.MinInt, -65, -2, -1, 65, 66, 1000, math.MaxInt} {
			if l, e := next.Some(every(), span, most); len(l) != 0 || e != api.ErrArg {
				t.Errorf("Some(%d, %d): %v %d", span, most, l, e)
			}
		}
	}
	for most := range 65 {
		l, e := next.Some(every(), [2]int64{0, lastTime}, most)
		if len(l) != most || e != api.OK {
			t.Errorf("Some of %d: %v %d", most, l, e)
		}
		for i, n := range l {
			if n != 60*int64(i+1) {
				t.Errorf("Some of %d: %v", most, l)
			}
		}
	}
}

// P8.3: crons and spans of all sorts.
func TestSome(t *testing.T) {
	r := rand.New(rand.NewSource(83))
	for range 1500 {
		c := someCron(r)
		from := r.Int63n(lastTime)
		to := from + r.Int63n(1<<uint(r.Intn(35)+1))
		if n, ok := nextOf(c, from); ok && r.Intn(3) == 0 {
			from, to = n-int64(r.Intn(2)), max(n, to)
		}
		most := r.Intn(12)
		want := someOf(c, [2]int64{from, to}, most)
		if l, e := next.Some(c, [2]int64{from, to}, most); !slices.Equal(l, want) || e != api.OK {
			t.Fatalf("Some(%x, %d to %d, %d): %v %d, want %v", c, from, to, most, l, e, want)
		}
		if len(want) == 0 {
			continue
		}
		// It ends with the span, to the second.
		last := want[len(want)-1]
		if l, e := next.Some(c, [2]int64{from, last}, 64); !slices.Equal(l, want) || e != api.OK {
			t.Fatalf("Some(%x, %d to %d): %v %d, want %v", c, from, last, l, e, want)
		}
		if l, e := next.Some(c, [2]int64{from, last - 1}, 64); !slices.Equal(l, want[:len(want)-1]) || e != api.OK {
			t.Fatalf("Some(%x, %d to %d): %v %d, want all but the last of %v", c, from, last-1, l, e, want)
		}
	}
}

// R3: what Some answers is new memory each time.
func TestSomeNew(t *testing.T) {
	a, _ := next.Some(every(), [2]int64{0, 600}, 9)
	b, _ := next.Some(every(), [2]int64{0, 600}, 9)
	want := slices.Clone(b)
	clear(a[:cap(a)])
	if !slices.Equal(b, want) {
		t.Errorf("Some was changed by another answer: %v, want %v", b, want)
	}
}

// P8.4: each day of each month is found behind each time from which there is a Horizon yet, and none that never comes.
func TestWithinHorizon(t *testing.T) {
	starts := []int{0, 1, lastDay - horizon - 1, lastDay - horizon}
	for n := 0; n <= lastDay-horizon; n += 39999 {
		starts = append(starts, n)
	}
	for month := 1; month <= 12; month++ {
		for n := 1; n <= 31; n++ {
			c := api.Cron{Minute: of(0), Hour: of(0), Day: of(n), Month: of(month), Weekday: allWeekdays}
			ever := next.Ever(c)
			for _, from := range starts {
				at := int64(from)*dayLong + dayLong - 1
				if _, ok := next.Next(c, at); ok != ever {
					t.Errorf("Next of day %d, month %d behind %d: %v", n, month, at, ok)
				}
				if _, ok := next.Last(c, at); ok && !ever {
					t.Errorf("Last of day %d, month %d until %d", n, month, at)
				}
			}
		}
	}
}

// P8.4: the rarest day, all of them there are, forwards and backwards.
func TestLeapDays(t *testing.T) {
	c := mustRead(t, "0 0 29 2 *")
	var want []int64
	for n, d := range calendar() {
		if d.month == 2 && d.day == 29 {
			want = append(want, int64(n)*dayLong)
		}
	}
	at := int64(-1)
	for _, w := range want {
		n, ok := next.Next(c, at)
		if n != w || !ok {
			t.Fatalf("Next behind %d: %d %v, want %d", at, n, ok, w)
		}
		at = n
	}
	if n, ok := next.Next(c, at); n != 0 || ok {
		t.Errorf("Next behind the last one: %d %v", n, ok)
	}
	at = lastTime
	for _, w := range slices.Backward(want) {
		n, ok := next.Last(c, at)
		if n != w || !ok {
			t.Fatalf("Last until %d: %d %v, want %d", at, n, ok, w)
		}
		at = n - 1
	}
	if n, ok := next.Last(c, at); n != 0 || ok {
		t.Errorf("Last ahead of the first one: %d %v", n, ok)
	}
}

// P8.4: what Next tells matches, no minute between does, Last of it is it, and Next of what is one less.
func TestBack(t *testing.T) {
	r := rand.New(rand.NewSource(84))
	for range 1000 {
		c := someCron(r)
		at := r.Int63n(lastTime - horizon*dayLong)
		n, ok := next.Next(c, at)
		if ok != next.Ever(c) {
			t.Fatalf("Next(%x, %d): %v", c, at, ok)
		}
		if !ok {
			continue
		}
		if n <= at || !cron.At(c, n) {
			t.Fatalf("Next(%x, %d): %d, which does not match", c, at, n)
		}
		for between := at/60*60 + 60; between < min(n, at+3*dayLong); between += 60 {
			if cron.At(c, between) {
				t.Fatalf("Next(%x, %d): %d, while %d matches", c, at, n, between)
			}
		}
		if back, ok := next.Last(c, n); back != n || !ok {
			t.Fatalf("Last(%x, %d): %d %v", c, n, back, ok)
		}
		if again, ok := next.Next(c, n-1); again != n || !ok {
			t.Fatalf("Next(%x, %d): %d %v, want %d", c, n-1, again, ok, n)
		}
		if back, ok := next.Last(c, n-1); ok && back > at {
			t.Fatalf("Last(%x, %d): %d, behind %d", c, n-1, back, at)
		}
	}
}

// P8.4: Some by two spans, one behind the other, is Some of both.
func TestSomeByParts(t *testing.T) {
	r := rand.New(rand.NewSource(85))
	for range 1000 {
		c := someCron(r)
		from := r.Int63n(lastTime) - dayLong
		all, e := next.Some(c, [2]int64{from, from + 1<<uint(r.Intn(36))}, 32)
		if e != api.OK || len(all) == 0 {
			continue
		}
		to := all[len(all)-1]
		cut := from + r.Int63n(to-from+1)
		if r.Intn(2) == 0 {
			cut = all[r.Intn(len(all))] - int64(r.Intn(2))
		}
		a, _ := next.Some(c, [2]int64{from, cut}, 64)
		b, _ := next.Some(c, [2]int64{cut, to}, 64)
		if !slices.Equal(append(a, b...), all) {
			t.Fatalf("Some(%x) by %d, %d, %d: %v, %v, want %v", c, from, cut, to, a, b, all)
		}
	}
}

// R1: all arguments, whatever they are.
func TestAnything(t *testing.T) {
	r := rand.New(rand.NewSource(86))
	for range 2000 {
		c := api.Cron{Minute: api.Mask(r.Uint64()), Hour: api.Mask(r.Uint64()), Day: api.Mask(r.Uint64()), Month: api.Mask(r.Uint64()), Weekday: api.Mask(r.Uint64())}
		for kind, m := range fields(&c) {
			if r.Intn(12) > 0 {
				*m &= wholes[kind]
			}
		}
		at := int64(r.Uint64()) >> uint(r.Intn(64))
		both(t, c, at)
		to := int64(r.Uint64()) >> uint(r.Intn(64))
		want, err := someOf(c, [2]int64{at, to}, 3), api.OK
		if !may(c) {
			want, err = nil, api.ErrCron
		}
		if l, e := next.Some(c, [2]int64{at, to}, 3); !slices.Equal(l, want) || e != err {
			t.Fatalf("Some(%x, %d to %d): %v %d, want %v %d", c, at, to, l, e, want, err)
		}
	}
}
