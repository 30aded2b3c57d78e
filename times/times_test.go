package times_test

import (
	"fmt"
	"math"
	"math/rand"
	"regexp"
	"slices"
	"strconv"
	"strings"
	"testing"

	"curfew/api"
	"curfew/times"
)

// lastTime is the time of 9999-12-31 23:59:59, and dayLong how many seconds a day is, by the chapter.
const (
	lastTime = 253402300799
	dayLong  = 86400
)

// civil is a civil time in one line.
func civil(year, month, day, hour, minute, second int) api.Civil {
	return api.Civil{Date: api.Date{Year: year, Month: month, Day: day}, Hour: hour, Minute: minute, Second: second}
}

// long is how long a month is, by the words of the calendar.
func long(year, month int) int {
	switch month {
	case 4, 6, 9, 11:
		return 30
	case 2:
		if year%400 == 0 || year%4 == 0 && year%100 != 0 {
			return 29
		}
		return 28
	}
	return 31
}

// behind is the day behind one, by the words of the calendar.
func behind(d api.Date) api.Date {
	switch {
	case d.Day < long(d.Year, d.Month):
		return api.Date{Year: d.Year, Month: d.Month, Day: d.Day + 1}
	case d.Month < 12:
		return api.Date{Year: d.Year, Month: d.Month + 1, Day: 1}
	}
	return api.Date{Year: d.Year + 1, Month: 1, Day: 1}
}

// tick is the second behind one of the same day, by counting as clocks do; false behind a day's last one.
func tick(c api.Civil) (api.Civil, bool) {
	if c.Second++; c.Second < 60 {
		return c, true
	}
	c.Second = 0
	if c.Minute++; c.Minute < 60 {
		return c, true
	}
	c.Minute = 0
	c.Hour++
	return c, c.Hour < 24
}

// clock are all seconds of a day, each at its place, on 1970-01-01.
func clock() []api.Civil {
	l := make([]api.Civil, 0, dayLong)
	for c, ok := civil(1970, 1, 1, 0, 0, 0), true; ok; c, ok = tick(c) {
		l = append(l, c)
	}
	return l
}

// calendar goes over all days, each with its number.
func calendar(do func(n int64, d api.Date)) {
	n := int64(0)
	for d := (api.Date{Year: 1970, Month: 1, Day: 1}); d.Year <= 9999; d = behind(d) {
		do(n, d)
		n++
	}
}

// edges are numbers about those that the chapter names, and as far off as there are any.
func edges() []int64 {
	l := []int64{math.MinInt64, math.MinInt64 + 1, math.MaxInt64 - 1, math.MaxInt64, math.MinInt64 + lastTime, math.MaxInt64 - lastTime, math.MaxInt32, math.MaxUint32, 951782400, 1794783805}
	for _, at := range []int64{0, 60, 3600, dayLong, 365 * dayLong, lastTime, -lastTime, lastTime - dayLong, math.MaxInt64 / 2, math.MinInt64 / 2} {
		for n := at - 2; n <= at+2; n++ {
			l = append(l, n)
		}
	}
	return l
}

// may tells whether t is a time, by the chapter's words.
func may(t int64) bool {
	return t >= 0 && t <= lastTime
}

// someTimes are times of all ages, and the edges among them.
func someTimes() []int64 {
	r := rand.New(rand.NewSource(5))
	var l []int64
	for _, t := range edges() {
		if may(t) {
			l = append(l, t)
		}
	}
	for range 2000 {
		l = append(l, r.Int63n(lastTime+1))
	}
	return l
}

// wrong are civil times that may not be: each part by itself, what would be carried over, what would go round, and dates that are none.
func wrong() []api.Civil {
	const far = math.MaxInt
	l := []api.Civil{
		{},
		civil(2024, 2, 29, 24, 0, 0), civil(2024, 2, 29, 0, 60, 0), civil(2024, 2, 29, 0, 0, 60), civil(2024, 2, 29, 23, 59, 60),
		civil(2024, 2, 29, -1, 0, 0), civil(2024, 2, 29, 0, -1, 0), civil(2024, 2, 29, 0, 0, -1),
		civil(2024, 2, 29, 1, -60, 0), civil(2024, 2, 29, 0, 1, -60), civil(2024, 2, 29, 1, 0, -3600), civil(2024, 2, 29, -1, 60, 0),
		civil(2024, 2, 29, 25, -60, 0), civil(2024, 2, 29, 0, 61, -60),
		civil(1970, 1, 1, -1, 0, 0), civil(1970, 1, 1, 0, 0, -1), civil(1970, 1, 2, -24, 0, 0), civil(1970, 1, 1, 24, 0, 0),
		civil(9999, 12, 31, 24, 0, 0), civil(9999, 12, 31, 23, 60, 0), civil(9999, 12, 31, 23, 59, 60), civil(10000, 1, 1, 0, 0, -1), civil(10000, 1, 1, -24, 0, 0),
		civil(1969, 12, 31, 23, 59, 59), civil(1969, 12, 31, 24, 0, 0), civil(10000, 1, 1, 0, 0, 0),
		civil(2023, 2, 29, 1, 2, 3), civil(2024, 2, 30, 1, 2, 3), civil(2100, 2, 29, 0, 0, 0), civil(2024, 0, 1, 0, 0, 0), civil(2024, 13, 1, 0, 0, 0), civil(2024, 1, 0, 0, 0, 0), civil(2024, 4, 31, 0, 0, 0),
		civil(far, far, far, far, far, far), civil(-far-1, -far-1, -far-1, -far-1, -far-1, -far-1),
		// All of these are worth 0 seconds, if what is too great goes round.
		civil(2024, 2, 29, 1<<60, 0, 0), civil(2024, 2, 29, 0, 1<<62, 0), civil(2024, 2, 29, 0, -far-1, 0), civil(2024, 2, 29, -1<<60, 0, 0), civil(2024, 2, 29, 1<<60+5, 1<<62+6, 7),
	}
	for _, x := range []int{math.MinInt, math.MinInt + 1, math.MinInt32, -3600, -60, -24, -2, -1, 60, 61, 99, 100, 3600, dayLong, math.MaxInt32, 1 << 32, math.MaxInt - 1, math.MaxInt} {
		l = append(l, civil(2024, 2, 29, x, 4, 5), civil(2024, 2, 29, 3, x, 5), civil(2024, 2, 29, 3, 4, x), civil(2024, 2, x, 3, 4, 5), civil(2024, x, 29, 3, 4, 5))
	}
	for _, year := range []int{math.MinInt, -1, 0, 70, 1968, 1969, 10000, 10004, math.MaxInt} {
		l = append(l, civil(year, 2, 28, 3, 4, 5))
	}
	for hour := 24; hour < 60; hour++ {
		l = append(l, civil(2024, 2, 29, hour, 4, 5))
	}
	return l
}

// P5.1: what a time is.
func TestMay(t *testing.T) {
	for _, n := range edges() {
		if times.May(n) != may(n) {
			t.Errorf("May(%d): %v", n, times.May(n))
		}
	}
}

// P5.1: of every second of some days the civil time may be, and it is that of the time, and the other way.
func TestSeconds(t *testing.T) {
	for _, q := range []struct {
		d api.Date
		n int64
	}{{api.Date{Year: 1970, Month: 1, Day: 1}, 0}, {api.Date{Year: 2000, Month: 2, Day: 29}, 11016}, {api.Date{Year: 9999, Month: 12, Day: 31}, 2932896}} {
		for i, c := range clock() {
			c.Date = q.d
			same(t, q.n*dayLong+int64(i), c)
		}
	}
}

// P5.1: the same of every day, at its first and last second and at one between.
func TestDays(t *testing.T) {
	last := int64(0)
	calendar(func(n int64, d api.Date) {
		c := api.Civil{Date: d}
		same(t, n*dayLong, c)
		between := n % dayLong
		c.Hour, c.Minute, c.Second = int(between/3600), int(between/60%60), int(between%60)
		same(t, n*dayLong+between, c)
		c.Hour, c.Minute, c.Second = 23, 59, 59
		same(t, n*dayLong+dayLong-1, c)
		last = n*dayLong + dayLong - 1
	})
	if last != lastTime || api.MaxTime != lastTime {
		t.Errorf("the last time: %d", last)
	}
}

// same holds the time and the civil time against each other.
func same(t *testing.T, n int64, c api.Civil) {
	t.Helper()
	if e := times.Check(c); e != api.OK {
		t.Fatalf("Check %v: %d", c, e)
	}
	if at, e := times.Of(c); at != n || e != api.OK {
		t.Fatalf("Of %v: %d %d, not %d", c, at, e, n)
	}
	if at, e := times.At(n); at != c || e != api.OK {
		t.Fatalf("At %d: %v %d, not %v", n, at, e, c)
	}
}

// P5.1: times that are known.
func TestKnown(t *testing.T) {
	for _, q := range []struct {
		n int64
		c api.Civil
	}{
		{0, civil(1970, 1, 1, 0, 0, 0)}, {86401, civil(1970, 1, 2, 0, 0, 1)}, {1000000000, civil(2001, 9, 9, 1, 46, 40)}, {1234567890, civil(2009, 2, 13, 23, 31, 30)},
		{951782399, civil(2000, 2, 28, 23, 59, 59)}, {951782400, civil(2000, 2, 29, 0, 0, 0)}, {1<<31 - 1, civil(2038, 1, 19, 3, 14, 7)}, {1 << 31, civil(2038, 1, 19, 3, 14, 8)},
		{1<<32 - 1, civil(2106, 2, 7, 6, 28, 15)}, {4102444799, civil(2099, 12, 31, 23, 59, 59)}, {lastTime, civil(9999, 12, 31, 23, 59, 59)},
	} {
		same(t, q.n, q.c)
	}
}

// P5.1: what is no civil time has no time, and what is no time no civil time.
func TestNone(t *testing.T) {
	for _, c := range wrong() {
		if e := times.Check(c); e != api.ErrCivil {
			t.Errorf("Check %v: %d", c, e)
		}
		if n, e := times.Of(c); n != 0 || e != api.ErrCivil {
			t.Errorf("Of %v: %d %d", c, n, e)
		}
	}
	for _, n := range edges() {
		if may(n) {
			continue
		}
		if c, e := times.At(n); c != (api.Civil{}) || e != api.ErrArg {
			t.Errorf("At %d: %v %d", n, c, e)
		}
	}
}

// P5.1: whatever the parts are about their edges, a civil time may be just if each of them may.
func TestParts(t *testing.T) {
	for hour := -2; hour < 27; hour++ {
		for minute := -2; minute < 63; minute++ {
			for second := -2; second < 63; second++ {
				c := civil(1988, 2, 29, hour, minute, second)
				if hour >= 0 && hour < 24 && minute >= 0 && minute < 60 && second >= 0 && second < 60 {
					same(t, 6633*dayLong+int64(hour*3600+minute*60+second), c)
				} else if n, e := times.Of(c); n != 0 || e != api.ErrCivil || times.Check(c) != e {
					t.Fatalf("Of %v: %d %d", c, n, e)
				}
			}
		}
	}
}

// P5.2: the weekday goes on from day to day, and is the same all the day.
func TestWeekday(t *testing.T) {
	want := 4
	calendar(func(n int64, d api.Date) {
		for _, at := range []int64{n * dayLong, n*dayLong + n%dayLong, n*dayLong + dayLong - 1} {
			if w, e := times.Weekday(at); w != want || e != api.OK {
				t.Fatalf("Weekday %d: %d %d, not %d", at, w, e, want)
			}
		}
		if want++; want > 6 {
			want = 0
		}
	})
	for _, n := range edges() {
		if w, e := times.Weekday(n); !may(n) && (w != 0 || e != api.ErrArg) {
			t.Errorf("Weekday %d: %d %d", n, w, e)
		}
	}
}

// P5.2: a sum is told if it is a time, and nothing goes round.
func TestAdd(t *testing.T) {
	for _, at := range edges() {
		for _, n := range append(edges(), -at, lastTime-at, lastTime-at+1, -at-1) {
			want, err := int64(0), api.ErrArg
			// In a float that sum can't go round, and it is a whole number where it matters.
			if sum := float64(at) + float64(n); may(at) && sum >= 0 && sum <= lastTime {
				want, err = at+n, api.OK
			}
			if got, e := times.Add(at, n); got != want || e != err {
				t.Errorf("Add(%d, %d): %d %d, not %d %d", at, n, got, e, want, err)
			}
		}
	}
}

// P5.2: of small times and units the floor is the greatest of those that unit divides, looked for one by one.
func TestFloor(t *testing.T) {
	for unit := int64(1); unit <= 70; unit++ {
		for at := int64(0); at < 300; at++ {
			want := int64(0)
			for n := int64(0); n <= at; n += unit {
				want = n
			}
			if n, e := times.Floor(at, unit); n != want || e != api.OK {
				t.Fatalf("Floor(%d, %d): %d %d, not %d", at, unit, n, e, want)
			}
		}
	}
}

// P5.2: of greater ones unit divides it, and the next such is above the time; wrong inputs have none.
func TestFloorEdges(t *testing.T) {
	units := append(edges(), 7, 60, 3600, dayLong, 1000000007, lastTime)
	for _, at := range append(edges(), someTimes()[:200]...) {
		for _, unit := range units {
			n, e := times.Floor(at, unit)
			switch {
			case !may(at) || unit < 1:
				if n != 0 || e != api.ErrArg {
					t.Errorf("Floor(%d, %d): %d %d", at, unit, n, e)
				}
			case e != api.OK || n < 0 || n > at || n%unit != 0 || at-n >= unit:
				t.Errorf("Floor(%d, %d): %d %d", at, unit, n, e)
			}
		}
	}
	for _, q := range [][3]int64{{3725, 3600, 3600}, {3600, 3600, 3600}, {3599, 3600, 0}, {0, math.MaxInt64, 0}, {lastTime, 1, lastTime}, {lastTime, dayLong, lastTime - dayLong + 1}, {lastTime, lastTime, lastTime}, {lastTime, lastTime + 1, 0}} {
		if n, e := times.Floor(q[0], q[1]); n != q[2] || e != api.OK {
			t.Errorf("Floor(%d, %d): %d %d", q[0], q[1], n, e)
		}
	}
}

// P5.3: a clock is believed if it says a time that is not below the last one.
func TestRead(t *testing.T) {
	for _, last := range edges() {
		for _, n := range append(edges(), last) {
			want := last
			if n >= 0 && n <= lastTime && n >= last {
				want = n
			}
			if got := times.Read(last, n); got != want {
				t.Errorf("Read(%d, %d): %d, not %d", last, n, got, want)
			}
		}
	}
	for _, q := range [][3]int64{{100, 99, 100}, {100, 100, 100}, {100, 101, 101}, {100, lastTime, lastTime}, {100, lastTime + 1, 100}, {-5, -7, -5}, {-5, -3, -5}, {-5, 0, 0}, {lastTime + 7, lastTime, lastTime + 7}, {lastTime + 7, lastTime + 8, lastTime + 7}} {
		if got := times.Read(q[0], q[1]); got != q[2] {
			t.Errorf("Read(%d, %d): %d", q[0], q[1], got)
		}
	}
}

// P5.4: texts that are known.
func TestKnownTexts(t *testing.T) {
	for s, n := range map[string]int64{"1970-01-01 00:00:00": 0, "2000-02-28 23:59:59": 951782399, "2009-02-13 23:31:30": 1234567890, "9999-12-31 23:59:59": lastTime, "2001-09-09 01:46:40": 1000000000} {
		if got, e := times.Text(n); got != s || e != api.OK {
			t.Errorf("Text %d: %s %d", n, got, e)
		}
		if got, e := times.Parse(s); got != n || e != api.OK {
			t.Errorf("Parse %s: %d %d", s, got, e)
		}
	}
}

// P5.4: the text of every day, at a second of it, and what is read of it.
func TestTexts(t *testing.T) {
	calendar(func(n int64, d api.Date) {
		second := (n * 4799) % dayLong
		s := fmt.Sprintf("%04d-%02d-%02d %02d:%02d:%02d", d.Year, d.Month, d.Day, second/3600, second/60%60, second%60)
		if got, e := times.Text(n*dayLong + second); got != s || e != api.OK {
			t.Fatalf("Text %d: %s %d, not %s", n*dayLong+second, got, e, s)
		}
		if got, e := times.Parse(s); got != n*dayLong+second || e != api.OK {
			t.Fatalf("Parse %s: %d %d", s, got, e)
		}
	})
}

// P5.4: what is no time has no text.
func TestNoText(t *testing.T) {
	for _, n := range edges() {
		if s, e := times.Text(n); !may(n) && (s != "" || e != api.ErrArg) {
			t.Errorf("Text %d: %s %d", n, s, e)
		}
	}
}

// stamp is what a text has to look like.
var stamp = regexp.MustCompile(`\A([0-9]{4})-([0-9]{2})-([0-9]{2}) ([0-9]{2}):([0-9]{2}):([0-9]{2})\z`)

// parse is Parse by the chapter's words.
func parse(s string) (int64, api.Errno) {
	m := stamp.FindStringSubmatch(s)
	if m == nil {
		return 0, api.ErrStamp
	}
	var l [6]int
	for i := range l {
		l[i], _ = strconv.Atoi(m[i+1])
	}
	if l[0] < 1970 || l[1] < 1 || l[1] > 12 || l[2] < 1 || l[2] > long(l[0], l[1]) || l[3] > 23 || l[4] > 59 || l[5] > 59 {
		return 0, api.ErrStamp
	}
	n := int64(l[2] - 1)
	for year := 1970; year < l[0]; year++ {
		n += 337 + int64(long(year, 2))
	}
	for month := 1; month < l[1]; month++ {
		n += int64(long(l[0], month))
	}
	return n*dayLong + int64(l[3]*3600+l[4]*60+l[5]), api.OK
}

// read holds Parse of s against the chapter's words.
func read(t *testing.T, s string) {
	t.Helper()
	want, err := parse(s)
	if n, e := times.Parse(s); n != want || e != err {
		t.Errorf("Parse %q: %d %d, not %d %d", s, n, e, want, err)
	}
}

// P5.4: texts that are none, or another one's: a letter changed, gone, put in, two changed for each other.
func TestParseChanged(t *testing.T) {
	for _, s := range []string{"1970-01-01 00:00:00", "2000-02-29 23:59:59", "2026-11-15 23:03:25", "2099-02-28 19:09:39", "9999-12-31 23:59:59"} {
		for i := range s {
			for x := range 256 {
				read(t, s[:i]+string([]byte{byte(x)})+s[i+1:])
				read(t, s[:i]+string([]byte{byte(x)})+s[i:])
			}
			read(t, s[:i])
			read(t, s[i:])
			read(t, s[:i]+s[i+1:])
			read(t, s[:i]+"é"+s[i+1:])
			read(t, s[:i]+"٣"+s[min(i+2, len(s)):])
			for j := range i {
				l := []byte(s)
				l[i], l[j] = l[j], l[i]
				read(t, string(l))
			}
		}
		for x := range 256 {
			read(t, s+string([]byte{byte(x)}))
		}
	}
}

// P5.4: wrong texts, by name.
func TestParseWrong(t *testing.T) {
	for _, s := range []string{
		"", " ", "0", "-", "0000-00-00 00:00:00", "2000-02-30 00:00:00", "2023-02-29 00:00:00", "1969-12-31 23:59:59", "2024-13-01 00:00:00", "2024-00-01 00:00:00", "2024-01-00 00:00:00",
		"2024-01-01 24:00:00", "2024-01-01 00:60:00", "2024-01-01 00:00:60", "2024-01-01 99:99:99", "9999-99-99 99:99:99", "10000-01-01 00:00:00", "02024-01-01 00:00:00",
		"2024-1-01 00:00:00", "2024-01-01 0:00:00", "24-01-01 00:00:00", "2024-01-01", "2024-01-01 00:00", "2024-01-01 00:00:00 ", " 2024-01-01 00:00:00", "2024-01-01 00:00:00\n", "2024-01-01 00:00:00Z",
		"2024-01-01T00:00:00", "2024/01/01 00:00:00", "2024-01-01 00.00.00", "2024-01-01  00:00:0", "2024-01-01 00:00:+1", "2024-01-01 00:00:-1", "+024-01-01 00:00:00", "-024-01-01 00:00:00", "2024-01-01 00:00:0x",
		"2024-01-01 00:00: 1", "2024-01-01 00:00:1 ", "2024--1-01 00:00:00", "2024-+1-01 00:00:00", "2024-01-01-00:00:00", "2024-01-01 00-00-00", "2024:01:01 00:00:00", "2024-01-01\x0000:00:00", "----- -- ::  ::  ::",
		"2024-01-01 00:00:00\x00", "\x00\x00\x00\x00\x00\x00\x00\x00\x00\x00\x00\x00\x00\x00\x00\x00\x00\x00\x00", "\xff\xff\xff\xff-\xff\xff-\xff\xff \xff\xff:\xff\xff:\xff\xff",
		strings.Repeat("2024-01-01 00:00:00", 2), strings.Repeat("0", 19), strings.Repeat("9", 1000),
	} {
		if n, e := times.Parse(s); n != 0 || e != api.ErrStamp {
			t.Errorf("Parse %q: %d %d", s, n, e)
		}
	}
}

// P5.4: numbers of all sorts in the shape of a text.
func TestParseNumbers(t *testing.T) {
	r := rand.New(rand.NewSource(54))
	for range 20000 {
		year := 1960 + r.Intn(60)
		if r.Intn(3) == 0 {
			year = r.Intn(10000)
		}
		read(t, fmt.Sprintf("%04d-%02d-%02d %02d:%02d:%02d", year, r.Intn(15), r.Intn(34), r.Intn(27), r.Intn(63), r.Intn(63)))
	}
}

// P5.5: there and back again.
func TestBack(t *testing.T) {
	for _, n := range someTimes() {
		c, _ := times.At(n)
		if back, e := times.Of(c); back != n || e != api.OK {
			t.Errorf("Of At %d: %d %d", n, back, e)
		}
		if again, e := times.At(n); again != c || e != api.OK {
			t.Errorf("At Of %v: %v %d", c, again, e)
		}
		s, _ := times.Text(n)
		back, e := times.Parse(s)
		if back != n || e != api.OK {
			t.Errorf("Parse Text %d: %d %d", n, back, e)
		}
		if again, e := times.Text(back); again != s || e != api.OK {
			t.Errorf("Text Parse %s: %s %d", s, again, e)
		}
	}
}

// P5.5: later times have greater texts.
func TestGreater(t *testing.T) {
	l := someTimes()
	for n := int64(951782300); n < 951782500; n++ {
		l = append(l, n)
	}
	slices.Sort(l)
	l = slices.Compact(l)
	last := ""
	for _, n := range l {
		s, e := times.Text(n)
		if e != api.OK || s <= last {
			t.Errorf("Text %d: %s %d, behind %s", n, s, e, last)
		}
		last = s
	}
}

// P5.5: Add by parts is Add at once, if all may be.
func TestAddByParts(t *testing.T) {
	r := rand.New(rand.NewSource(55))
	l := someTimes()
	for i, at := range l {
		to := l[r.Intn(len(l))]
		between := l[(i+7)%len(l)]
		once, e := times.Add(at, to-at)
		first, f := times.Add(at, between-at)
		both, g := times.Add(first, to-between)
		if once != to || both != to || e != api.OK || f != api.OK || g != api.OK {
			t.Errorf("Add from %d by %d to %d: %d %d, %d %d %d", at, between, to, once, e, both, f, g)
		}
	}
}

// P5.5: what is read, one behind the other, never falls, and is a time, if the first one is.
func TestReads(t *testing.T) {
	r := rand.New(rand.NewSource(53))
	l := append(edges(), someTimes()...)
	for range 100 {
		last := r.Int63n(lastTime + 1)
		if r.Intn(2) == 0 {
			last = r.Int63n(1000)
		}
		for range 200 {
			n := times.Read(last, l[r.Intn(len(l))])
			if n < last || !may(n) {
				t.Fatalf("read %d behind %d", n, last)
			}
			last = n
		}
	}
}
