package days_test

import (
	"math"
	"math/rand"
	"testing"

	"curfew/api"
	"curfew/days"
)

// lastDay is the number of 9999-12-31, and era how many days 400 years are, by the chapter.
const (
	lastDay = 2932896
	era     = 146097
)

// date is a date in one line.
func date(year, month, day int) api.Date {
	return api.Date{Year: year, Month: month, Day: day}
}

// divides tells whether k divides n, without a remainder's sign.
func divides(k, n int) bool {
	return n/k*k == n
}

// leap is a leap year by the words of the chapter.
func leap(year int) bool {
	return divides(4, year) && !divides(100, year) || divides(400, year)
}

// long is how long a month is, by the words of the chapter.
func long(year, month int) int {
	switch month {
	case 4, 6, 9, 11:
		return 30
	case 2:
		if leap(year) {
			return 29
		}
		return 28
	case 1, 3, 5, 7, 8, 10, 12:
		return 31
	}
	return 0
}

// behind is the day behind one, by the words of the chapter.
func behind(d api.Date) api.Date {
	switch {
	case d.Day < long(d.Year, d.Month):
		return date(d.Year, d.Month, d.Day+1)
	case d.Month < 12:
		return date(d.Year, d.Month+1, 1)
	}
	return date(d.Year+1, 1, 1)
}

// calendar are all dates, each at its number, day by day from 1970-01-01 on.
func calendar() []api.Date {
	l := make([]api.Date, 0, lastDay+1)
	for d := date(1970, 1, 1); d.Year <= 9999; d = behind(d) {
		l = append(l, d)
	}
	return l
}

// edges are numbers about those that the chapter names, and as far off as there are any.
func edges() []int {
	l := []int{math.MinInt, math.MinInt + 1, math.MinInt32, -1 << 32, math.MaxInt32, 1 << 32, math.MaxInt - 1, math.MaxInt}
	for _, at := range []int{0, 59, 365, 789, 10957, 11016, 47541, era, lastDay, -era, -lastDay, -lastDay - 134774, math.MaxInt - lastDay, math.MinInt + lastDay + 2} {
		for n := at - 2; n <= at+2; n++ {
			l = append(l, n)
		}
	}
	return l
}

// wrong are dates that may not be: each part by itself, and more of them at once.
func wrong() []api.Date {
	l := []api.Date{
		{}, date(2024, 0, 0), date(0, 1, 1), date(math.MinInt, math.MinInt, math.MinInt), date(math.MaxInt, math.MaxInt, math.MaxInt),
		date(1969, 12, 31), date(1969, 12, 32), date(10000, 1, 1), date(10000, 1, 0), date(-2000, 1, 1), date(math.MinInt, 1, 1), date(math.MaxInt, 1, 1),
		date(1970, 1, 0), date(1970, 0, 31), date(9999, 12, 32), date(9999, 13, 1),
		date(2024, 0, 1), date(2024, 13, 1), date(2024, -1, 1), date(2024, 14, 1), date(2024, math.MinInt, 1), date(2024, math.MaxInt, 1), date(2024, 1<<32+1, 1), date(2024, 1<<32, 1),
		date(2024, 1, 0), date(2024, 1, -1), date(2024, 1, 32), date(2024, 1, math.MinInt), date(2024, 1, math.MaxInt), date(2024, 1, 1<<32+1),
		date(2023, 2, 29), date(2024, 2, 30), date(2100, 2, 29), date(2000, 2, 30), date(1970, 2, 29), date(9999, 2, 29), date(1<<32+2024, 1, 1),
	}
	for year := 1968; year <= 2004; year++ {
		for month := -1; month <= 14; month++ {
			l = append(l, date(year, month, 0), date(year, month, long(year, month)+1))
		}
	}
	return l
}

// P4.1: Check of each day of the calendar, and of each one about it.
func TestCheck(t *testing.T) {
	for year := 1960; year <= 10010; year++ {
		for month := -1; month <= 14; month++ {
			for _, day := range []int{-1, 0, 1, 15, 27, 28, 29, 30, 31, 32, 33} {
				want := api.ErrDate
				if 1970 <= year && year <= 9999 && 1 <= day && day <= long(year, month) {
					want = api.OK
				}
				if e := days.Check(date(year, month, day)); e != want {
					t.Fatalf("Check(%d-%d-%d): %d, want %d", year, month, day, e, want)
				}
			}
		}
	}
	for _, d := range calendar() {
		if e := days.Check(d); e != api.OK {
			t.Fatalf("Check(%v): %d", d, e)
		}
	}
}

// P4.1 to P4.3: a date that may not be is told so, and nothing besides, whatever else is wrong.
func TestWrongDate(t *testing.T) {
	for _, d := range wrong() {
		if e := days.Check(d); e != api.ErrDate {
			t.Errorf("Check(%v): %d", d, e)
		}
		if n, e := days.Of(d); n != 0 || e != api.ErrDate {
			t.Errorf("Of(%v): %d %d", d, n, e)
		}
		for _, n := range []int{0, 1, -1, 400, lastDay, lastDay + 1, -lastDay - 1, math.MinInt, math.MaxInt} {
			if x, e := days.Add(d, n); x != (api.Date{}) || e != api.ErrDate {
				t.Errorf("Add(%v, %d): %v %d", d, n, x, e)
			}
		}
	}
}

// P4.1: Leap, of years as people know them, of those below 0, and of the last ones there are.
func TestLeap(t *testing.T) {
	for year, want := range map[int]bool{
		1968: true, 1970: false, 1972: true, 1900: false, 2000: true, 2023: false, 2024: true, 2100: false, 2200: false, 2300: false, 2400: true,
		0: true, 1: false, -1: false, -2: false, -3: false, -4: true, -96: true, -100: false, -200: false, -300: false, -400: true, -401: false, -404: true, -2000: true, -2100: false,
		9996: true, 9999: false, 10000: true, 10100: false,
		math.MaxInt: false, math.MaxInt - 1: false, math.MaxInt - 3: true, math.MinInt: true, math.MinInt + 1: false, math.MinInt + 2: false, math.MinInt + 4: true,
	} {
		if is := days.Leap(year); is != want {
			t.Errorf("Leap(%d): %v", year, is)
		}
	}
	for year := -12000; year <= 12000; year++ {
		if is := days.Leap(year); is != leap(year) {
			t.Errorf("Leap(%d): %v", year, is)
		}
	}
	for _, year := range edges() {
		if is := days.Leap(year); is != leap(year) {
			t.Errorf("Leap(%d): %v", year, is)
		}
	}
}

// P4.1: Long, of each month of whatever year, and of those that are none.
func TestLong(t *testing.T) {
	years := append(edges(), 1600, 1700, 1900, 1969, 1970, 1999, 2023, 2024, 2100, 2400, 9999, 10000, -1, -4, -100, -400)
	months := append(edges(), 3, 4, 5, 6, 7, 8, 9, 10, 11, 12, 13, 14, 1<<32+2, 256, 257)
	for _, year := range years {
		for _, month := range months {
			if n := days.Long(year, month); n != long(year, month) {
				t.Errorf("Long(%d, %d): %d, want %d", year, month, n, long(year, month))
			}
		}
	}
	for year := -1000; year <= 11000; year++ {
		sum := 0
		for month := 0; month <= 13; month++ {
			sum += days.Long(year, month)
		}
		if sum != 365 && !leap(year) || sum != 366 && leap(year) {
			t.Errorf("the months of %d are %d days", year, sum)
		}
	}
}

// P4.1: Compare, by Year, then Month, then Day, whatever they are, both ways round.
func TestCompare(t *testing.T) {
	parts := []int{math.MinInt, math.MinInt + 1, -1, 0, 1, 2, 12, 31, 1970, math.MaxInt - 1, math.MaxInt}
	var rising []api.Date
	for _, year := range parts {
		for _, month := range parts {
			for _, day := range parts {
				rising = append(rising, date(year, month, day))
			}
		}
	}
	for i, a := range rising {
		for j, b := range rising {
			want := 0
			if i < j {
				want = -1
			} else if i > j {
				want = 1
			}
			if n := days.Compare(a, b); n != want {
				t.Fatalf("Compare(%v, %v): %d, want %d", a, b, n, want)
			}
		}
	}
}

// P4.2, P4.3: days that are known from elsewhere, and their weekdays.
func TestKnown(t *testing.T) {
	for _, c := range []struct {
		d          api.Date
		n, weekday int
	}{
		{date(1970, 1, 1), 0, 4},
		{date(1970, 1, 31), 30, 6},
		{date(1970, 2, 1), 31, 0},
		{date(1970, 3, 1), 59, 0},
		{date(1970, 12, 31), 364, 4},
		{date(1971, 1, 1), 365, 5},
		{date(1972, 2, 29), 789, 2},
		{date(2000, 1, 1), 10957, 6},
		{date(2000, 2, 29), 11016, 2},
		{date(2000, 3, 1), 11017, 3},
		{date(2001, 9, 9), 11574, 0},
		{date(2024, 2, 29), 19782, 4},
		{date(2038, 1, 19), 24855, 2},
		{date(2100, 2, 28), 47540, 0},
		{date(2100, 3, 1), 47541, 1},
		{date(9999, 12, 31), 2932896, 5},
	} {
		if n, e := days.Of(c.d); n != c.n || e != api.OK {
			t.Errorf("Of(%v): %d %d, want %d", c.d, n, e, c.n)
		}
		if d, e := days.At(c.n); d != c.d || e != api.OK {
			t.Errorf("At(%d): %v %d, want %v", c.n, d, e, c.d)
		}
		if w, e := days.Weekday(c.n); w != c.weekday || e != api.OK {
			t.Errorf("Weekday(%d): %d %d, want %d", c.n, w, e, c.weekday)
		}
	}
}

// P4.2 to P4.4: each day's number, date and weekday, day by day; At of Of, and Of of At.
func TestCalendar(t *testing.T) {
	l := calendar()
	if len(l) != api.MaxDay+1 {
		t.Fatalf("the calendar has %d days", len(l))
	}
	for n, want := range l {
		d, e := days.At(n)
		if d != want || e != api.OK {
			t.Fatalf("At(%d): %v %d, want %v", n, d, e, want)
		}
		x, e := days.Of(want)
		if x != n || e != api.OK {
			t.Fatalf("Of(%v): %d %d, want %d", want, x, e, n)
		}
		w, e := days.Weekday(n)
		if w != (4+n)%7 || e != api.OK {
			t.Fatalf("Weekday(%d): %d %d", n, w, e)
		}
	}
}

// P4.2, P4.3: a number that no date has is told, and nothing besides.
func TestWrongNumber(t *testing.T) {
	for _, n := range edges() {
		want := api.ErrArg
		if 0 <= n && n <= lastDay {
			want = api.OK
		}
		if d, e := days.At(n); e != want || e != api.OK && d != (api.Date{}) {
			t.Errorf("At(%d): %v %d, want %d", n, d, e, want)
		}
		if w, e := days.Weekday(n); e != want || e != api.OK && w != 0 {
			t.Errorf("Weekday(%d): %d %d, want %d", n, w, e, want)
		}
	}
}

// P4.3: Weekday of a day is one more than that of the day ahead, Sunday behind Saturday.
func TestWeekday(t *testing.T) {
	last := 3
	for n := range lastDay + 1 {
		w, e := days.Weekday(n)
		if e != api.OK || last < 6 && w != last+1 || last == 6 && w != 0 {
			t.Fatalf("Weekday(%d): %d %d behind %d", n, w, e, last)
		}
		last = w
	}
}

// starts are numbers of days to add to: about the ends, about leap days, and some by chance, the same in every run.
func starts() []int {
	l := []int{0, 1, 58, 59, 60, 364, 365, 788, 789, 790, 10956, 10957, 11015, 11016, 11017, 47540, 47541, era - 1, era, era + 1, lastDay - 365, lastDay - 1, lastDay}
	r := rand.New(rand.NewSource(4))
	for range 60 {
		l = append(l, r.Intn(lastDay+1))
	}
	return l
}

// P4.3: Add from and to everywhere, and past both ends, where nothing goes round.
func TestAdd(t *testing.T) {
	l := calendar()
	for _, from := range starts() {
		for _, to := range append(starts(), -1, -2, -era, lastDay+1, lastDay+2, lastDay+era) {
			d, e := days.Add(l[from], to-from)
			switch {
			case 0 <= to && to <= lastDay:
				if d != l[to] || e != api.OK {
					t.Errorf("Add(%v, %d): %v %d, want %v", l[from], to-from, d, e, l[to])
				}
			case d != (api.Date{}) || e != api.ErrArg:
				t.Errorf("Add(%v, %d): %v %d", l[from], to-from, d, e)
			}
		}
		for _, n := range []int{math.MinInt, math.MinInt + 1, math.MinInt + from, math.MaxInt, math.MaxInt - 1, math.MaxInt - from, math.MaxInt - from + 1, -lastDay - 1, lastDay + 1, 1 << 32, -1 << 32, math.MaxInt32, math.MinInt32} {
			if d, e := days.Add(l[from], n); d != (api.Date{}) || e != api.ErrArg {
				t.Errorf("Add(%v, %d): %v %d", l[from], n, d, e)
			}
		}
	}
}

// P4.4: a greater number is a date behind; each date's Day is 1, or one more than that of the day ahead.
func TestRising(t *testing.T) {
	last, _ := days.At(0)
	for n := 1; n <= lastDay; n++ {
		d, e := days.At(n)
		if e != api.OK || days.Compare(last, d) != -1 || days.Compare(d, last) != 1 || days.Compare(d, d) != 0 {
			t.Fatalf("At(%d): %v %d behind %v", n, d, e, last)
		}
		if d.Day != 1 && d.Day != last.Day+1 {
			t.Fatalf("At(%d): %v behind %v", n, d, last)
		}
		last = d
	}
	for _, a := range starts() {
		for _, b := range starts() {
			x, _ := days.At(a)
			y, _ := days.At(b)
			if (a < b) != (days.Compare(x, y) == -1) || (a == b) != (days.Compare(x, y) == 0) {
				t.Errorf("%d is %v, %d is %v: Compare %d", a, x, b, y, days.Compare(x, y))
			}
		}
	}
}

// P4.4: 146097 days behind a date all is the same, but that it is 400 years on.
func TestEra(t *testing.T) {
	for n := 0; n+era <= lastDay; n++ {
		d, _ := days.At(n)
		x, e := days.Add(d, era)
		if x != date(d.Year+400, d.Month, d.Day) || e != api.OK {
			t.Fatalf("Add(%v, %d): %v %d", d, era, x, e)
		}
		w, _ := days.Weekday(n)
		if v, e := days.Weekday(n + era); v != w || e != api.OK {
			t.Fatalf("Weekday(%d): %d, want %d", n+era, v, w)
		}
	}
	for n := lastDay - era + 1; n <= lastDay; n++ {
		d, _ := days.At(n)
		if x, e := days.Add(d, era); x != (api.Date{}) || e != api.ErrArg {
			t.Fatalf("Add(%v, %d): %v %d", d, era, x, e)
		}
	}
}

// P4.4: Add by parts is Add at once, if all may be.
func TestParts(t *testing.T) {
	for _, from := range starts() {
		d, _ := days.At(from)
		for _, by := range starts() {
			half, e := days.Add(d, by-from)
			if e != api.OK {
				t.Fatalf("Add(%v, %d): %d", d, by-from, e)
			}
			for _, to := range []int{0, 59, 789, from, by, 11016, lastDay - by, lastDay} {
				x, e := days.Add(half, to-by)
				y, f := days.Add(d, to-from)
				if x != y || e != api.OK || f != api.OK {
					t.Errorf("%v and %d, and %d: %v %d; at once: %v %d", d, by-from, to-by, x, e, y, f)
				}
			}
		}
	}
}

// R5: what a call answers hangs on nothing that was asked ahead of it.
func TestAgain(t *testing.T) {
	asks := []int{0, lastDay, -1, 59, lastDay + 1, 11016, 789, 11016, 0}
	tell := func() (l []api.Date) {
		for _, n := range asks {
			d, _ := days.At(n)
			x, _ := days.Add(d, n)
			l = append(l, d, x)
		}
		return l
	}
	first := tell()
	for _, d := range wrong() {
		days.Of(d)
		days.Add(d, 1)
	}
	for i, d := range tell() {
		if d != first[i] {
			t.Errorf("asked again: %v, was %v", d, first[i])
		}
	}
}
