package field_test

import (
	"math"
	"math/rand"
	"slices"
	"strconv"
	"strings"
	"testing"

	"curfew/api"
	"curfew/field"
)

// kinds are all kinds, by their numbers in the chapter.
var kinds = []int{0, 1, 2, 3, 4}

// noKinds are numbers that no kind has.
var noKinds = []int{math.MinInt, math.MinInt32, -64, -5, -1, 5, 6, 7, 63, 64, 1 << 32, 1<<32 + 4, math.MaxInt - 1, math.MaxInt}

// lower and upper tell the ends of a kind, by the chapter.
func lower(kind int) int { return []int{0, 0, 1, 1, 0}[kind] }
func upper(kind int) int { return []int{59, 23, 31, 12, 6}[kind] }

// of is the mask of these numbers.
func of(l ...int) api.Mask {
	var m api.Mask
	for _, n := range l {
		m |= 1 << n
	}
	return m
}

// rest is the mask of all numbers from one to another, by steps; 7 is 0 of a weekday.
func rest(kind, from, to, step int) api.Mask {
	var m api.Mask
	for n := from; n <= to; n += step {
		if kind == 4 && n == 7 {
			m |= 1
		} else {
			m |= 1 << n
		}
	}
	return m
}

// has tells whether the mask has n.
func has(m api.Mask, n int) bool { return m>>n&1 == 1 }

// is tells whether the mask is a field of the kind, by the chapter's words.
func is(kind int, m api.Mask) bool {
	return m != 0 && m&^rest(kind, lower(kind), upper(kind), 1) == 0
}

// great tells the text with great letters for the small ones of ASCII, and for none besides.
func great(s string) string {
	b := []byte(s)
	for i, x := range b {
		if 'a' <= x && x <= 'z' {
			b[i] = x - 32
		}
	}
	return string(b)
}

// valuesOf are the values of a kind, with great letters, and what each is.
func valuesOf(kind int) map[string]int {
	l := map[string]int{}
	for n := lower(kind); n <= upper(kind); n++ {
		l[strconv.Itoa(n)] = n
	}
	switch kind {
	case 3:
		for i, s := range strings.Fields("JAN FEB MAR APR MAY JUN JUL AUG SEP OCT NOV DEC") {
			l[s] = i + 1
		}
	case 4:
		l["7"] = 7
		for i, s := range strings.Fields("SUN MON TUE WED THU FRI SAT") {
			l[s] = i
		}
	}
	return l
}

// itemsOf are all items of a kind, with great letters, and what each has: the rows of the chapter's table, one by one.
func itemsOf(kind int) map[string]api.Mask {
	l := map[string]api.Mask{"*": rest(kind, lower(kind), upper(kind), 1)}
	for step := 1; step <= 63; step++ {
		l["*/"+strconv.Itoa(step)] = rest(kind, lower(kind), upper(kind), step)
	}
	values := valuesOf(kind)
	for s, n := range values {
		l[s] = rest(kind, n, n, 1)
		for z, m := range values {
			if m < n {
				continue
			}
			l[s+"-"+z] = rest(kind, n, m, 1)
			for step := 1; step <= 63; step++ {
				l[s+"-"+z+"/"+strconv.Itoa(step)] = rest(kind, n, m, step)
			}
		}
	}
	return l
}

// known are the items of each kind, with what they have.
var known = func() []map[string]api.Mask {
	var l []map[string]api.Mask
	for _, kind := range kinds {
		l = append(l, itemsOf(kind))
	}
	return l
}()

// allItems are the items of each kind, made once.
var allItems = func() [][]string {
	var l [][]string
	for _, kind := range kinds {
		var k []string
		for s := range known[kind] {
			k = append(k, s)
		}
		slices.Sort(k)
		l = append(l, k)
	}
	return l
}()

// told is what Read has to tell, by the chapter's words and the items that there are.
func told(kind int, text string) (api.Mask, int, api.Errno) {
	if len(text) > 256 {
		return 0, 0, api.ErrLong
	}
	var m api.Mask
	at := 0
	for _, s := range strings.Split(text, ",") {
		x, ok := known[kind][great(s)]
		if !ok {
			return 0, at, api.ErrField
		}
		m |= x
		at += len(s) + 1
	}
	return m, 0, api.OK
}

// read holds Read of a text against what it has to tell.
func read(t *testing.T, kind int, text string) {
	t.Helper()
	want, place, err := told(kind, text)
	if m, at, e := field.Read(kind, text); m != want || at != place || e != err {
		t.Errorf("Read(%d, %q): %x %d %d, want %x %d %d", kind, text, m, at, e, want, place, err)
	}
}

// oneText is the one text of a field, by the chapter's words.
func oneText(kind int, m api.Mask) string {
	if m == rest(kind, lower(kind), upper(kind), 1) {
		return "*"
	}
	count := 0
	for n := range 64 {
		if has(m, n) {
			count++
		}
	}
	for n := 2; count >= 3 && n < 64; n++ {
		if m == rest(kind, lower(kind), upper(kind), n) {
			return "*/" + strconv.Itoa(n)
		}
	}
	s := ""
	for n := 0; n < 64; n++ {
		if !has(m, n) {
			continue
		}
		from := n
		for n < 63 && has(m, n+1) {
			n++
		}
		if s != "" {
			s += ","
		}
		s += strconv.Itoa(from)
		if n > from {
			s += "-" + strconv.Itoa(n)
		}
	}
	return s
}

// fields are fields of a kind: each of those of months and weekdays; of the others those at the edges, and some of each thickness; the same in every run.
func fields(kind int) []api.Mask {
	var l []api.Mask
	whole := rest(kind, lower(kind), upper(kind), 1)
	if kind == 3 || kind == 4 {
		for m := api.Mask(1); m <= whole; m++ {
			if is(kind, m) {
				l = append(l, m)
			}
		}
		return l
	}
	put := func(m api.Mask) {
		if is(kind, m) {
			l = append(l, m)
		}
	}
	put(whole)
	for n := lower(kind); n <= upper(kind); n++ {
		put(of(n))
		put(whole &^ of(n))
		for k := n; k <= upper(kind); k++ {
			put(rest(kind, n, k, 1))
			put(whole &^ rest(kind, n, k, 1))
			put(of(n, k))
		}
	}
	for step := 1; step < 64; step++ {
		for from := lower(kind); from <= upper(kind); from++ {
			m := rest(kind, from, upper(kind), step)
			put(m)
			// One number less, or more, and it is told otherwise.
			for n := lower(kind); n <= upper(kind); n++ {
				put(m ^ of(n))
			}
		}
	}
	r := rand.New(rand.NewSource(int64(kind)))
	for range 2000 {
		a, b, c := api.Mask(r.Uint64()), api.Mask(r.Uint64()), api.Mask(r.Uint64())
		for _, m := range []api.Mask{a, a & b, a | b, a & b & c, a | b | c} {
			put(m & whole)
		}
	}
	return l
}

// P6.1: the ends, of each kind.
func TestEnds(t *testing.T) {
	for kind, want := range []api.Run{{From: 0, To: 59}, {From: 0, To: 23}, {From: 1, To: 31}, {From: 1, To: 12}, {From: 0, To: 6}} {
		if r, e := field.Ends(kind); r != want || e != api.OK {
			t.Errorf("Ends(%d): %v %d, want %v", kind, r, e, want)
		}
	}
	for _, kind := range noKinds {
		if r, e := field.Ends(kind); r != (api.Run{}) || e != api.ErrArg {
			t.Errorf("Ends(%d): %v %d", kind, r, e)
		}
	}
}

// P6.1: the whole field of each kind; of none no number.
func TestWhole(t *testing.T) {
	for kind, want := range []api.Mask{1<<60 - 1, 1<<24 - 1, 1<<32 - 2, 1<<13 - 2, 127} {
		if m := field.Whole(kind); m != want {
			t.Errorf("Whole(%d): %x, want %x", kind, m, want)
		}
	}
	for _, kind := range noKinds {
		if m := field.Whole(kind); m != 0 {
			t.Errorf("Whole(%d): %x", kind, m)
		}
	}
}

// P6.1: which masks are fields: no number, one beyond the ends alone and among others.
func TestCheck(t *testing.T) {
	check := func(kind int, m api.Mask) {
		t.Helper()
		want := api.OK
		if !is(kind, m) {
			want = api.ErrField
		}
		if e := field.Check(kind, m); e != want {
			t.Errorf("Check(%d, %x): %d, want %d", kind, m, e, want)
		}
	}
	r := rand.New(rand.NewSource(61))
	for _, kind := range kinds {
		whole := rest(kind, lower(kind), upper(kind), 1)
		check(kind, 0)
		check(kind, ^api.Mask(0))
		check(kind, ^whole)
		check(kind, whole)
		for n := range 64 {
			check(kind, of(n))
			check(kind, whole|of(n))
			check(kind, whole&^of(n))
			check(kind, of(lower(kind), n))
		}
		for range 200 {
			check(kind, api.Mask(r.Uint64()))
			check(kind, api.Mask(r.Uint64())&whole)
		}
	}
	for _, kind := range noKinds {
		for _, m := range []api.Mask{0, 1, 2, 127, ^api.Mask(0)} {
			if e := field.Check(kind, m); e != api.ErrArg {
				t.Errorf("Check(%d, %x): %d", kind, m, e)
			}
		}
	}
}

// value holds Value of a text against what it has to tell.
func value(t *testing.T, kind int, s string) {
	t.Helper()
	want, is := valuesOf(kind)[great(s)]
	if n, ok := field.Value(kind, s); n != want || ok != is {
		t.Errorf("Value(%d, %q): %d %v, want %d %v", kind, s, n, ok, want, is)
	}
}

// cases are all ways to write a name with great and small letters.
func cases(s string) []string {
	l := []string{""}
	for _, r := range s {
		var k []string
		for _, x := range l {
			k = append(k, x+strings.ToUpper(string(r)), x+strings.ToLower(string(r)))
		}
		l = k
	}
	return l
}

// P6.2: numbers, names in all their cases, and those of other kinds.
func TestValue(t *testing.T) {
	for _, kind := range kinds {
		for n := range 300 {
			value(t, kind, strconv.Itoa(n))
		}
		for _, from := range kinds {
			for s := range valuesOf(from) {
				for _, x := range cases(s) {
					value(t, kind, x)
				}
			}
		}
	}
	for _, c := range []struct {
		kind int
		s    string
		want int
	}{
		{0, "0", 0}, {0, "59", 59}, {1, "23", 23}, {2, "1", 1}, {2, "31", 31}, {3, "1", 1}, {3, "12", 12}, {3, "jAn", 1}, {3, "DEC", 12}, {3, "may", 5},
		{4, "0", 0}, {4, "6", 6}, {4, "7", 7}, {4, "Sun", 0}, {4, "sat", 6}, {4, "Sat", 6}, {4, "WED", 3},
	} {
		if n, ok := field.Value(c.kind, c.s); n != c.want || !ok {
			t.Errorf("Value(%d, %q): %d %v, want %d", c.kind, c.s, n, ok, c.want)
		}
	}
}

// P6.2: what is no value: beyond the ends, zeros ahead, signs, blanks, items, what would go round, and letters that are like others.
func TestValueWrong(t *testing.T) {
	wrong := []string{
		"", " ", "60", "24", "32", "13", "8", "00", "01", "07", "000", "+1", "-1", "1 ", " 1", "1.0", "1e1", "0x1", "1_0", "*", "*/2", "1-2", "1,2", "1/2", "\x00", "1\x00", "١", "१", "1٣", "\xff", "1\xff",
		"SUNDAY", "MONDAY", "JANUARY", "JA", "J", "SU", "SUN ", " SUN", "SUNSUN", "SUNMON", "JANFEB", "XYZ", "ſun", "ſat", "ſep", "SUN\x00", "\xd3UN", "S\u0000N", "5UN", "SUN7", "jаn", "S\x15N", "5AT", "\x13UN",
		"18446744073709551616", "18446744073709551617", "18446744073709551621", "9223372036854775808", "4294967296", "4294967297", "4294967301", "65", "64", "63", "256", "257", "260", "65537",
		strings.Repeat("9", 256), strings.Repeat("0", 256), "1" + strings.Repeat("0", 20), "1" + strings.Repeat("0", 64), "1" + strings.Repeat("0", 10000) + "1", strings.Repeat("SUN", 10000),
	}
	for x := range 256 {
		wrong = append(wrong, string([]byte{byte(x)}), string([]byte{'1', byte(x)}), string([]byte{byte(x), '1'}))
		for at := range 3 {
			for _, s := range []string{"SUN", "sat", "JAN", "dec"} {
				b := []byte(s)
				b[at] = byte(x)
				wrong = append(wrong, string(b))
			}
		}
	}
	for _, kind := range kinds {
		for _, s := range wrong {
			value(t, kind, s)
		}
	}
	for _, kind := range noKinds {
		for _, s := range []string{"", "0", "1", "7", "SUN", "JAN", "*"} {
			if n, ok := field.Value(kind, s); n != 0 || ok {
				t.Errorf("Value(%d, %q): %d %v", kind, s, n, ok)
			}
		}
	}
}

// P6.3: each item that there is.
func TestReadItems(t *testing.T) {
	for _, kind := range kinds {
		for _, s := range allItems[kind] {
			want := known[kind][s]
			if m, at, e := field.Read(kind, s); m != want || at != 0 || e != api.OK {
				t.Fatalf("Read(%d, %q): %x %d %d, want %x", kind, s, m, at, e, want)
			}
		}
	}
}

// P6.3: items by name, with what they have.
func TestReadNamed(t *testing.T) {
	for _, c := range []struct {
		kind int
		text string
		want api.Mask
	}{
		{0, "*", 1<<60 - 1}, {0, "*/1", 1<<60 - 1}, {0, "0-59", 1<<60 - 1}, {0, "*/63", 1}, {0, "*/59", of(0, 59)}, {0, "0,15-17,*/30", of(0, 15, 16, 17, 30)}, {0, "5-59/20", of(5, 25, 45)},
		{1, "*/9", of(0, 9, 18)}, {1, "22-23", of(22, 23)}, {1, "3-3", of(3)}, {1, "3-3/63", of(3)}, {1, "3,3,3", of(3)}, {1, "0,23", of(0, 23)},
		{2, "*/10", of(1, 11, 21, 31)}, {2, "*/31", of(1)}, {2, "*/30", of(1, 31)}, {2, "31,1", of(1, 31)},
		{3, "*/5", of(1, 6, 11)}, {3, "jan,12", of(1, 12)}, {3, "mar-Jun/2", of(3, 5)}, {3, "2-DEC/10", of(2, 12)},
		{4, "MON-FRI", of(1, 2, 3, 4, 5)}, {4, "5-7", of(0, 5, 6)}, {4, "7", of(0)}, {4, "7-7", of(0)}, {4, "7-7/3", of(0)}, {4, "0-7", 127}, {4, "sun-7", 127}, {4, "1-7", 127}, {4, "0-7/7", of(0)},
		{4, "1-7/2", of(0, 1, 3, 5)}, {4, "1-7/4", of(1, 5)}, {4, "5-7/2", of(0, 5)}, {4, "SAT-7", of(0, 6)}, {4, "*/7", of(0)}, {4, "*/2", of(0, 2, 4, 6)}, {4, "7,SAT", of(0, 6)},
	} {
		if m, at, e := field.Read(c.kind, c.text); m != c.want || at != 0 || e != api.OK {
			t.Errorf("Read(%d, %q): %x %d %d, want %x", c.kind, c.text, m, at, e, c.want)
		}
	}
}

// P6.3: texts that are none, by name, with the place where the first part begins that is no item.
func TestReadWrong(t *testing.T) {
	for _, c := range []struct {
		kind int
		text string
		at   int
	}{
		{0, "", 0}, {0, ",", 0}, {0, ",1", 0}, {0, "1,", 2}, {1, "1,,2", 2}, {1, "1,2,,", 4}, {0, "60", 0}, {1, "24", 0}, {2, "0", 0}, {2, "32", 0}, {3, "0", 0}, {3, "13", 0}, {4, "8", 0},
		{1, "5-3", 0}, {1, "1,5-3,2", 2}, {4, "7-5", 0}, {4, "7-6", 0}, {4, "7-0", 0}, {4, "7-SUN", 0}, {4, "SAT-SUN", 0}, {4, "5-0", 0}, {3, "DEC-JAN", 0}, {3, "NOV-1", 0},
		{0, "*/0", 0}, {0, "*/64", 0}, {0, "*/00", 0}, {0, "*/05", 0}, {0, "*/", 0}, {0, "*/-1", 0}, {0, "*/*", 0}, {0, "*/18446744073709551617", 0}, {0, "*/4294967297", 0}, {3, "*/JAN", 0}, {4, "*/MON", 0}, {0, "*/2/2", 0}, {0, "*/2-3", 0},
		{0, "1-5/0", 0}, {0, "1-5/64", 0}, {0, "1-5/", 0}, {0, "1-5/02", 0}, {0, "1-5/2/2", 0}, {0, "1-5-7", 0}, {0, "1-5-7/2", 0}, {0, "1-/2", 0}, {0, "-5", 0}, {0, "5-", 0}, {0, "-", 0}, {0, "--", 0}, {0, "/", 0}, {0, "/2", 0}, {0, "-/", 0}, {3, "JAN-", 0}, {3, "JAN-MAR/FEB", 0},
		{1, "1,5/2", 2}, {0, "5/2", 0}, {3, "JAN/2", 0}, {0, "**", 0}, {0, "*-5", 0}, {0, "*-*", 0}, {0, "5-*", 0}, {0, "1,*,*,* ", 6}, {0, " *", 0}, {0, "* ", 0}, {0, "1, 2", 2}, {0, "1 ,2", 0}, {0, "1 - 2", 0}, {0, "1-2 /3", 0}, {0, "* /2", 0}, {0, "*/ 2", 0},
		{0, "01", 0}, {0, "1,02", 2}, {0, "1-02", 0}, {0, "00", 0}, {0, "+1", 0}, {0, "JAN", 0}, {1, "SUN", 0}, {2, "MON", 0}, {3, "SUN", 0}, {4, "JAN", 0}, {0, "7,MON", 2}, {0, "1;2", 0}, {0, "1–5", 0}, {0, "１", 0}, {4, "ſun", 0}, {4, "1,ſat", 2}, {0, "\xff", 0}, {0, "1\x00", 0}, {0, "1,2\n", 2},
		{0, "0-60", 0}, {1, "0-24", 0}, {2, "0-31", 0}, {2, "1-32", 0}, {3, "0-12", 0}, {4, "0-8", 0}, {0, "1-18446744073709551621", 0}, {2, "1,2,3,44,5,66", 6}, {3, "JAN,FEB,MAY,JUNE,OCT", 12},
	} {
		if m, at, e := field.Read(c.kind, c.text); m != 0 || at != c.at || e != api.ErrField {
			t.Errorf("Read(%d, %q): %x %d %d, want %d", c.kind, c.text, m, at, e, c.at)
		}
	}
}

// P6.3: all short texts of the letters that stand in texts, and of some that don't.
func TestReadShort(t *testing.T) {
	const letters = "0123567*/-, aSUn"
	texts := []string{""}
	for from := 0; len(texts[from]) < 4; from++ {
		for _, r := range letters {
			texts = append(texts, texts[from]+string(r))
		}
	}
	for _, kind := range kinds {
		for _, s := range texts {
			read(t, kind, s)
		}
	}
}

// P6.3: texts with one byte changed, gone or put in.
func TestReadChanged(t *testing.T) {
	for kind, l := range [][]string{
		{"0,15-17,*/30", "5-59/20", "*"},
		{"1,2,3-23/4", "*/9,22"},
		{"1-31/10,31", "*/2"},
		{"Jan,mar-DEC/3,7", "JUN-8/2"},
		{"MON-fri,7", "Sun-7/3", "5-7,*/63"},
	} {
		for _, s := range l {
			for at := range len(s) + 1 {
				for x := range 256 {
					read(t, kind, s[:at]+string([]byte{byte(x)})+s[at:])
					if at < len(s) {
						read(t, kind, s[:at]+string([]byte{byte(x)})+s[at+1:])
					}
				}
				read(t, kind, s[:at])
				read(t, kind, s[at:])
				if at < len(s) {
					read(t, kind, s[:at]+s[at+1:])
				}
			}
		}
	}
}

// someText is items that are put together, and now and then a part that is none.
func someText(r *rand.Rand, kind int, wrong bool) string {
	var parts []string
	bad := []string{"", " ", "99", "5-3", "*/0", "*/64", "07", "MON-", "5/2", "**", "X"}
	for range 1 + r.Intn(8) {
		s := allItems[kind][r.Intn(len(allItems[kind]))]
		if r.Intn(2) == 0 {
			s = strings.ToLower(s)
		}
		if wrong && r.Intn(8) == 0 {
			s = bad[r.Intn(len(bad))]
		}
		parts = append(parts, s)
	}
	return strings.Join(parts, ",")
}

// P6.3: several items have what each of them has; of several wrong parts the first one's place is told.
func TestReadMany(t *testing.T) {
	r := rand.New(rand.NewSource(63))
	for _, kind := range kinds {
		for range 4000 {
			read(t, kind, someText(r, kind, true))
		}
	}
}

// P6.3: MaxText bytes may be, one more may not, whatever they are; and no kind is told ahead of that.
func TestReadLong(t *testing.T) {
	for _, n := range []int{254, 255, 256, 257, 258, 512, 100000} {
		for _, s := range []string{strings.Repeat("1,", n/2) + "1", strings.Repeat("1,", n), strings.Repeat("9", n), strings.Repeat(",", n), strings.Repeat("é", n), strings.Repeat("*", n)} {
			for _, kind := range kinds {
				read(t, kind, s[:min(n, len(s))])
			}
			for _, kind := range noKinds {
				if m, at, e := field.Read(kind, s); m != 0 || at != 0 || e != api.ErrArg {
					t.Errorf("Read of %d bytes of kind %d: %x %d %d", len(s), kind, m, at, e)
				}
			}
		}
	}
	s := strings.Repeat("2,", 126) + "3-10"
	if m, at, e := field.Read(1, s); len(s) != 256 || m != rest(1, 2, 10, 1) || at != 0 || e != api.OK {
		t.Errorf("Read of %d bytes: %x %d %d", len(s), m, at, e)
	}
	if m, at, e := field.Read(1, s+"/"); m != 0 || at != 0 || e != api.ErrLong {
		t.Errorf("Read of a byte more: %x %d %d", m, at, e)
	}
	if m, at, e := field.Read(1, s[:255]+"-"); m != 0 || at != 252 || e != api.ErrField {
		t.Errorf("Read of a last part that is no item: %x %d %d", m, at, e)
	}
}

// P6.3: no such kind, whatever the text.
func TestReadNoKind(t *testing.T) {
	for _, kind := range noKinds {
		for _, s := range []string{"*", "0", "1", "", ",", "SUN", "JAN", "1,,2"} {
			if m, at, e := field.Read(kind, s); m != 0 || at != 0 || e != api.ErrArg {
				t.Errorf("Read(%d, %q): %x %d %d", kind, s, m, at, e)
			}
		}
	}
}

// P6.4: the one text, by name.
func TestTextNamed(t *testing.T) {
	for _, c := range []struct {
		kind int
		m    api.Mask
		want string
	}{
		{0, 1<<60 - 1, "*"}, {1, 1<<24 - 1, "*"}, {2, 1<<32 - 2, "*"}, {3, 1<<13 - 2, "*"}, {4, 127, "*"},
		{0, of(0, 15, 16, 17, 30), "0,15-17,30"}, {0, of(0, 15, 30, 45), "*/15"}, {0, of(0, 20, 40), "*/20"}, {0, of(0, 29, 58), "*/29"}, {0, of(0, 30), "0,30"}, {0, of(0, 31), "0,31"}, {0, of(0), "0"}, {0, of(59), "59"}, {0, of(0, 1), "0-1"}, {0, of(58, 59), "58-59"},
		{0, of(15, 30, 45), "15,30,45"}, {0, of(0, 15, 30), "0,15,30"}, {0, rest(0, 1, 59, 1), "1-59"}, {0, rest(0, 0, 58, 1), "0-58"}, {0, rest(0, 0, 59, 2), "*/2"}, {0, rest(0, 1, 59, 2), "1,3,5,7,9,11,13,15,17,19,21,23,25,27,29,31,33,35,37,39,41,43,45,47,49,51,53,55,57,59"},
		{1, of(0, 23), "0,23"}, {1, of(0, 12), "0,12"}, {1, of(0, 11, 22), "*/11"}, {1, of(0, 9, 18), "*/9"}, {1, of(0, 1, 2), "0-2"},
		{2, of(1, 16, 31), "*/15"}, {2, of(1, 11, 21), "1,11,21"}, {2, of(1, 11, 21, 31), "*/10"}, {2, of(2, 4), "2,4"}, {2, of(1, 31), "1,31"},
		{3, of(1, 6, 11), "*/5"}, {3, of(1, 7), "1,7"}, {3, of(12), "12"}, {3, of(1, 2, 3, 5, 6), "1-3,5-6"}, {3, of(3, 6, 9, 12), "3,6,9,12"},
		{4, of(0, 2, 4, 6), "*/2"}, {4, of(0, 3, 6), "*/3"}, {4, of(1, 2, 3, 4, 5), "1-5"}, {4, of(0, 6), "0,6"}, {4, of(0, 5, 6), "0,5-6"}, {4, of(0), "0"},
	} {
		if s, e := field.Text(c.kind, c.m); s != c.want || e != api.OK {
			t.Errorf("Text(%d, %x): %q %d, want %q", c.kind, c.m, s, e, c.want)
		}
	}
}

// P6.4: the one text of all sorts of fields, by the chapter's words; each has fewer than MaxText bytes.
func TestText(t *testing.T) {
	for _, kind := range kinds {
		for _, m := range fields(kind) {
			want := oneText(kind, m)
			if s, e := field.Text(kind, m); s != want || e != api.OK || len(s) >= 256 {
				t.Fatalf("Text(%d, %x): %q %d, want %q", kind, m, s, e, want)
			}
		}
	}
}

// P6.4: masks that are no fields, and no such kind.
func TestTextWrong(t *testing.T) {
	for _, kind := range kinds {
		whole := rest(kind, lower(kind), upper(kind), 1)
		l := []api.Mask{0, ^api.Mask(0), ^whole}
		for n := range 64 {
			if !has(whole, n) {
				l = append(l, of(n), whole|of(n), of(lower(kind), n), of(lower(kind), lower(kind)+1, n))
			}
		}
		for _, m := range l {
			if s, e := field.Text(kind, m); s != "" || e != api.ErrField {
				t.Errorf("Text(%d, %x): %q %d", kind, m, s, e)
			}
		}
	}
	for _, kind := range noKinds {
		for _, m := range []api.Mask{0, 1, 2, 127, ^api.Mask(0)} {
			if s, e := field.Text(kind, m); s != "" || e != api.ErrArg {
				t.Errorf("Text(%d, %x): %q %d", kind, m, s, e)
			}
		}
	}
}

// P6.5: Read of Text is the field, and Text of that the text again.
func TestBack(t *testing.T) {
	for _, kind := range kinds {
		for _, m := range fields(kind) {
			s, _ := field.Text(kind, m)
			x, at, e := field.Read(kind, s)
			if x != m || at != 0 || e != api.OK {
				t.Fatalf("Read(%d, %q): %x %d %d, want %x", kind, s, x, at, e, m)
			}
			if again, e := field.Text(kind, x); again != s || e != api.OK {
				t.Fatalf("Text(%d, %x): %q %d, want %q", kind, x, again, e, s)
			}
		}
	}
}

// P6.5: a text behind another one has what both have, and whatever is read is a field.
func TestBehind(t *testing.T) {
	r := rand.New(rand.NewSource(65))
	for _, kind := range kinds {
		for range 2000 {
			a, b := someText(r, kind, false), someText(r, kind, false)
			x, _, e := field.Read(kind, a)
			y, _, f := field.Read(kind, b)
			both, _, g := field.Read(kind, a+","+b)
			if both != x|y || e != api.OK || f != api.OK || g != api.OK {
				t.Fatalf("Read(%d, %q, and %q): %x %d, of %x and %x", kind, a, b, both, g, x, y)
			}
			for _, m := range []api.Mask{x, y, both} {
				if e := field.Check(kind, m); e != api.OK || !is(kind, m) {
					t.Fatalf("Check(%d, %x), of %q and %q: %d", kind, m, a, b, e)
				}
			}
		}
	}
}

// P6.5: names may stand where their numbers do.
func TestNames(t *testing.T) {
	for _, kind := range []int{3, 4} {
		values := valuesOf(kind)
		for s, n := range values {
			for z, m := range values {
				if m < n {
					continue
				}
				for _, tail := range []string{"", "/1", "/2", "/5", "/63"} {
					named, plain := s+"-"+z+tail+","+z, strconv.Itoa(n)+"-"+strconv.Itoa(m)+tail+","+strconv.Itoa(m)
					x, _, e := field.Read(kind, named)
					y, _, f := field.Read(kind, plain)
					if x != y || e != api.OK || f != api.OK {
						t.Errorf("Read(%d, %q): %x %d; of %q: %x %d", kind, named, x, e, plain, y, f)
					}
				}
			}
		}
	}
}

// R5: an answer hangs on nothing that was asked ahead of it.
func TestAgain(t *testing.T) {
	r := rand.New(rand.NewSource(66))
	type asked struct {
		kind int
		text string
	}
	var l []asked
	var first []api.Mask
	for range 500 {
		a := asked{r.Intn(5), ""}
		a.text = someText(r, a.kind, true)
		l = append(l, a)
		m, _, _ := field.Read(a.kind, a.text)
		first = append(first, m)
	}
	for i := len(l) - 1; i >= 0; i-- {
		if m, _, _ := field.Read(l[i].kind, l[i].text); m != first[i] {
			t.Errorf("Read(%d, %q): %x, and then %x", l[i].kind, l[i].text, first[i], m)
		}
	}
}
