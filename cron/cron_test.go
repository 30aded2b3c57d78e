package cron_test

import (
	"math"
	"math/rand"
	"strings"
	"testing"

	"curfew/api"
	"curfew/cron"
	"curfew/field"
)

// The whole fields, by the chapters' ends.
const (
	allMinutes  api.Mask = 1<<60 - 1
	allHours    api.Mask = 1<<24 - 1
	allDays     api.Mask = 1<<32 - 2
	allMonths   api.Mask = 1<<13 - 2
	allWeekdays api.Mask = 1<<7 - 1
)

// lastTime is the time of 9999-12-31 23:59:59.
const lastTime = 253402300799

// wholes are the whole fields, in the order of a text.
var wholes = [5]api.Mask{allMinutes, allHours, allDays, allMonths, allWeekdays}

// of is the mask of these numbers.
func of(l ...int) api.Mask {
	var m api.Mask
	for _, n := range l {
		m |= 1 << n
	}
	return m
}

// has tells whether the mask has n.
func has(m api.Mask, n int) bool { return m>>n&1 == 1 }

// every is the cron that fits each minute.
func every() api.Cron {
	return api.Cron{Minute: allMinutes, Hour: allHours, Day: allDays, Month: allMonths, Weekday: allWeekdays}
}

// get tells a field of a cron, by its place in a text.
func get(c api.Cron, kind int) api.Mask {
	return [5]api.Mask{c.Minute, c.Hour, c.Day, c.Month, c.Weekday}[kind]
}

// with is the cron with another mask at that place.
func with(c api.Cron, kind int, m api.Mask) api.Cron {
	switch kind {
	case 0:
		c.Minute = m
	case 1:
		c.Hour = m
	case 2:
		c.Day = m
	case 3:
		c.Month = m
	case 4:
		c.Weekday = m
	}
	return c
}

// may tells whether the cron may be, by the chapter's words.
func may(c api.Cron) bool {
	for kind, whole := range wholes {
		if m := get(c, kind); m == 0 || m&^whole != 0 {
			return false
		}
	}
	return true
}

// someField is a field of a kind: a thin one, a thick one, the whole one, or one number.
func someField(r *rand.Rand, kind int) api.Mask {
	for {
		m := api.Mask(r.Uint64())
		switch r.Intn(6) {
		case 0:
			m &= api.Mask(r.Uint64())
		case 1:
			m |= api.Mask(r.Uint64())
		case 2:
			m = 1 << r.Intn(60)
		case 3:
			m = wholes[kind]
		case 4:
			m = wholes[kind] &^ (1 << r.Intn(60))
		}
		if m &= wholes[kind]; m != 0 {
			return m
		}
	}
}

// someCron is a cron that may be.
func someCron(r *rand.Rand) api.Cron {
	var c api.Cron
	for kind := range 5 {
		c = with(c, kind, someField(r, kind))
	}
	return c
}

// wrongCrons are crons that may not be: one field has no number, or one beyond its ends.
func wrongCrons() []api.Cron {
	l := []api.Cron{{}, {Minute: ^api.Mask(0), Hour: ^api.Mask(0), Day: ^api.Mask(0), Month: ^api.Mask(0), Weekday: ^api.Mask(0)}}
	thin := api.Cron{Minute: of(0), Hour: of(0), Day: of(1), Month: of(1), Weekday: of(0)}
	for kind, whole := range wholes {
		for _, c := range []api.Cron{every(), thin} {
			l = append(l, with(c, kind, 0), with(c, kind, ^api.Mask(0)))
			for n := range 64 {
				if !has(whole, n) {
					l = append(l, with(c, kind, of(n)), with(c, kind, get(c, kind)|of(n)))
				}
			}
		}
		l = append(l, with(api.Cron{}, kind, whole))
	}
	return l
}

// meanings are the macros, with what each means.
var meanings = map[string]api.Cron{
	"@yearly":   {Minute: 1, Hour: 1, Day: 2, Month: 2, Weekday: allWeekdays},
	"@annually": {Minute: 1, Hour: 1, Day: 2, Month: 2, Weekday: allWeekdays},
	"@monthly":  {Minute: 1, Hour: 1, Day: 2, Month: allMonths, Weekday: allWeekdays},
	"@weekly":   {Minute: 1, Hour: 1, Day: allDays, Month: allMonths, Weekday: 1},
	"@daily":    {Minute: 1, Hour: 1, Day: allDays, Month: allMonths, Weekday: allWeekdays},
	"@midnight": {Minute: 1, Hour: 1, Day: allDays, Month: allMonths, Weekday: allWeekdays},
	"@hourly":   {Minute: 1, Hour: allHours, Day: allDays, Month: allMonths, Weekday: allWeekdays},
}

// notMacros are words that are none, though they look like one.
func notMacros() []string {
	l := []string{
		"", " ", "@", "@@", "@@daily", "@reboot", "@never", "@minutely", "@every", "@noon", "daily", "hourly", "yearly", "* * * * *", "0 0 * * *", "*", "0",
		"@year", "@month", "@week", "@day", "@hour", "@annual", "@mid", "@yearly@monthly", "@ daily", "@daily 0", "＠daily", "@dаily", "@daıly", "@dailyé", "@hour\x00", "@\xff", "\x00@daily",
	}
	for s := range meanings {
		l = append(l, s+" ", " "+s, s+"@", s+"\x00", s+"\t", s+"\n", s+s, strings.ToUpper(s), "@"+strings.ToUpper(s[1:2])+s[2:], s[1:])
		for at := range s {
			l = append(l, s[:at], s[:at]+s[at+1:], s[:at]+"x"+s[at+1:], s[:at]+strings.ToUpper(s[at:]), s[:at]+s[at:at+1]+s[at:])
		}
	}
	var none []string
	for _, s := range l {
		if _, ok := meanings[s]; !ok {
			none = append(none, s)
		}
	}
	return none
}

// wordAt is a word of a text, and the place where it begins.
type wordAt struct {
	at   int
	word string
}

// split tells the words of a text, letter by letter.
func split(text string) []wordAt {
	var l []wordAt
	for at := 0; at < len(text); at++ {
		switch {
		case text[at] == ' ':
		case at > 0 && text[at-1] != ' ':
			l[len(l)-1].word += text[at : at+1]
		default:
			l = append(l, wordAt{at, text[at : at+1]})
		}
	}
	return l
}

// told is what Read has to tell, by the chapter's words: the words are looked at one by one.
func told(text string) (api.Cron, int, api.Errno) {
	if len(text) > 256 {
		return api.Cron{}, 0, api.ErrLong
	}
	words := split(text)
	if len(words) > 0 && words[0].word[0] == '@' {
		c, ok := meanings[words[0].word]
		switch {
		case !ok:
			return api.Cron{}, words[0].at, api.ErrCron
		case len(words) > 1:
			return api.Cron{}, words[1].at, api.ErrCron
		}
		return c, 0, api.OK
	}
	var c api.Cron
	for i, w := range words {
		if i == 5 {
			return api.Cron{}, w.at, api.ErrCron
		}
		m, in, err := field.Read(i, w.word)
		if err != api.OK {
			return api.Cron{}, w.at + in, api.ErrCron
		}
		c = with(c, i, m)
	}
	if len(words) < 5 {
		return api.Cron{}, len(text), api.ErrCron
	}
	return c, 0, api.OK
}

// read holds Read of a text against what it has to tell.
func read(t *testing.T, text string) {
	t.Helper()
	want, place, err := told(text)
	if c, at, e := cron.Read(text); c != want || at != place || e != err {
		t.Errorf("Read(%q): %x %d %d, want %x %d %d", text, c, at, e, want, place, err)
	}
}

// mustRead is the cron of a text that has to be one.
func mustRead(t *testing.T, text string) api.Cron {
	t.Helper()
	c, at, e := cron.Read(text)
	if at != 0 || e != api.OK {
		t.Fatalf("Read(%q): %d %d", text, at, e)
	}
	return c
}

// long is how long a month is, by the words of the calendar.
func long(year, month int) int {
	switch month {
	case 4, 6, 9, 11:
		return 30
	case 2:
		if year%400 == 0 || year%4 == 0 && year%100 != 0 {
			return 29
		}
		return 28
	}
	return 31
}

// day is a day of the calendar, its number and its weekday.
type day struct {
	date    api.Date
	num     int64
	weekday int
}

// calendar are the days of these years, counted one by one from 1970-01-01, a Thursday, on.
func calendar(from, to int) []day {
	var l []day
	num, weekday := int64(0), 4
	for year := 1970; year <= to; year++ {
		for month := 1; month <= 12; month++ {
			for n := 1; n <= long(year, month); n++ {
				if year >= from {
					l = append(l, day{api.Date{Year: year, Month: month, Day: n}, num, weekday})
				}
				num++
				weekday = (weekday + 1) % 7
			}
		}
	}
	return l
}

// fits tells whether the day fits, by the chapter's words.
func fits(c api.Cron, d day) bool {
	byDay, byWeekday := has(c.Day, d.date.Day), has(c.Weekday, d.weekday)
	switch {
	case !may(c) || !has(c.Month, d.date.Month):
		return false
	case c.Day == allDays:
		return byWeekday
	case c.Weekday == allWeekdays:
		return byDay
	}
	return byDay || byWeekday
}

// P7.1: crons that may be, and those of which one field may not.
func TestCheck(t *testing.T) {
	r := rand.New(rand.NewSource(71))
	for range 5000 {
		if c := someCron(r); cron.Check(c) != api.OK {
			t.Fatalf("Check(%x): %d", c, cron.Check(c))
		}
	}
	for kind, whole := range wholes {
		for n := range 64 {
			c, want := with(every(), kind, of(n)), api.OK
			if !has(whole, n) {
				want = api.ErrCron
			}
			if e := cron.Check(c); e != want {
				t.Errorf("Check(%x): %d, want %d", c, e, want)
			}
		}
	}
	for _, c := range wrongCrons() {
		if e := cron.Check(c); e != api.ErrCron {
			t.Errorf("Check(%x): %d", c, e)
		}
	}
	if e := cron.Check(every()); e != api.OK || api.ErrCron != 170 {
		t.Errorf("Check of each minute: %d", e)
	}
}

// P7.1: each macro's meaning.
func TestMacro(t *testing.T) {
	for s, want := range meanings {
		if c, ok := cron.Macro(s); c != want || !ok {
			t.Errorf("Macro(%q): %x %v, want %x", s, c, ok, want)
		}
	}
}

// P7.1: words that are no macros.
func TestMacroNone(t *testing.T) {
	for _, s := range append(notMacros(), strings.Repeat("@daily", 100000)) {
		if c, ok := cron.Macro(s); c != (api.Cron{}) || ok {
			t.Errorf("Macro(%q): %x %v", s, c, ok)
		}
	}
}

// P7.2: texts by name, with what they have.
func TestReadNamed(t *testing.T) {
	for text, want := range map[string]api.Cron{
		"* * * * *":                            every(),
		"*/1 */1 */1 */1 */1":                  every(),
		"0-59 0-23 1-31 1-12 0-7":              every(),
		"  0 9  * * 1-5":                       {Minute: of(0), Hour: of(9), Day: allDays, Month: allMonths, Weekday: of(1, 2, 3, 4, 5)},
		"59 23 31 12 6":                        {Minute: of(59), Hour: of(23), Day: of(31), Month: of(12), Weekday: of(6)},
		"0 0 1 1 7":                            {Minute: of(0), Hour: of(0), Day: of(1), Month: of(1), Weekday: of(0)},
		"1 2 3 4 5":                            {Minute: of(1), Hour: of(2), Day: of(3), Month: of(4), Weekday: of(5)},
		"*/15 8-18/5 1,15 jan,JUL Mon-fri ":    {Minute: of(0, 15, 30, 45), Hour: of(8, 13, 18), Day: of(1, 15), Month: of(1, 7), Weekday: of(1, 2, 3, 4, 5)},
		"0,15-17,*/30 * */10 DEC sat-7":        {Minute: of(0, 15, 16, 17, 30), Hour: allHours, Day: of(1, 11, 21, 31), Month: of(12), Weekday: of(0, 6)},
		"0 0 30 2 *":                           {Minute: of(0), Hour: of(0), Day: of(30), Month: of(2), Weekday: allWeekdays},
		"@hourly":                              meanings["@hourly"],
		"   @weekly ":                          meanings["@weekly"],
		"@annually" + strings.Repeat(" ", 247): meanings["@annually"],
	} {
		if c, at, e := cron.Read(text); c != want || at != 0 || e != api.OK {
			t.Errorf("Read(%q): %x %d %d, want %x", text, c, at, e, want)
		}
	}
}

// P7.2: texts that are none, by name, with the place.
func TestReadWrong(t *testing.T) {
	for _, q := range []struct {
		text string
		at   int
	}{
		// Too few words: the text's length, blanks and all.
		{"", 0}, {" ", 1}, {"     ", 5}, {"0", 1}, {"0 9 * *", 7}, {"0 9 * *  ", 9}, {"  0 9 * *", 9}, {"0   ", 4}, {"*", 1}, {"* * * *", 7}, {"*****", 0},
		// Words behind the fifth one.
		{"0 9 * * 1 2", 10}, {"0 9 * * 1 2 3", 10}, {"0 9 * * 1 x", 10}, {"0 9 * * 1 @daily", 10}, {"0 9 * * 1   @", 12}, {" * * * * *  *", 12},
		// A word that is no text of its kind: the place in it, of the first such one, though words are missing, or too many.
		{"0 25 * * *", 2}, {"60 * * * *", 0}, {"* 24 * * *", 2}, {"* * 0 * *", 4}, {"* * 32 * *", 4}, {"* * * 0 *", 6}, {"* * * 13 *", 6}, {"* * * * 8", 8}, {"* * * * x 2", 8}, {"0 25", 2}, {"0 25 99 * * *", 2}, {"61 25 99", 0},
		{"1,2,60 * * * *", 4}, {"  1,2,60 * * * *", 6}, {"0 1,,2 * * *", 4}, {"0  1, * * *", 5}, {"0 ,1 * * *", 2}, {"* * 1,2-4,40,50 * *", 10}, {"* * * JAN,SUN *", 10}, {"* * * * MON,JAN", 12}, {"* JAN * * *", 2}, {"0 9 MON * *", 4}, {"* * * * 5-3", 8}, {"*/64 * * * *", 0}, {"5,*/0 * * * *", 2},
		{"1, 2 * * * *", 2}, {"1 - 2 * *", 2}, {"* /2 * * *", 2},
		// Only a space is a blank.
		{"0\t9 * * *", 0}, {"0 9 * *\t*", 6}, {"0 9 * * *\n", 8}, {"\n0 9 * * *", 0}, {"0 9 * * * \n", 10}, {"0 9 * * * \x00", 10}, {"0 9 * *\u00a0*", 6}, {"0 9 * * 1\u3000", 8}, {"@daily\t", 0}, {"@daily\n", 0}, {"\t", 0}, {" \t", 1}, {"@daily \t", 7},
		// Macros stand alone, and first.
		{"@never", 0}, {"@daily 0", 7}, {"@", 0}, {"  @never", 2}, {"@Daily", 0}, {"@DAILY", 0}, {"@daily @daily", 7}, {"  @daily   @hourly 7", 11}, {"@never 0", 0}, {"@never @daily", 0}, {"@ daily", 0}, {"@daily * * * * *", 7}, {"@reboot", 0}, {"@daily,@hourly", 0}, {"@daily,0 9 * * *", 0},
		{"0 @daily", 2}, {"0 0 1 1 @daily", 8}, {"0,@daily * * * *", 2}, {"daily", 0}, {"x@daily", 0}, {"*@daily", 0}, {"0 9 * @", 6}, {"@0 9 * * *", 0},
	} {
		if c, at, e := cron.Read(q.text); c != (api.Cron{}) || at != q.at || e != api.ErrCron {
			t.Errorf("Read(%q): %x %d %d, want ErrCron at %d", q.text, c, at, e, q.at)
		}
	}
	for _, s := range notMacros() {
		read(t, s)
		read(t, "  "+s)
		read(t, "* "+s)
		read(t, s+" * * * *")
	}
}

// P7.2: all short texts of some letters, so that words begin and end everywhere.
func TestReadShort(t *testing.T) {
	for letters, most := range map[string]int{" *": 12, " 0,": 10, " @7x*": 7} {
		l := []string{""}
		for from := 0; from < len(l); from++ {
			read(t, l[from])
			if len(l[from]) < most {
				for _, r := range letters {
					l = append(l, l[from]+string(r))
				}
			}
		}
	}
}

// P7.2: texts with a byte changed, gone or put in.
func TestReadChanged(t *testing.T) {
	for _, s := range []string{"0 9 * * 1-5", "  */15 8-18/5  1,15 jan,JUL Mon-fri ", "@daily", " @hourly ", "0 0 1 1 *"} {
		for at := range len(s) + 1 {
			read(t, s[:at])
			read(t, s[at:])
			for x := range 256 {
				read(t, s[:at]+string([]byte{byte(x)})+s[at:])
				if at < len(s) {
					read(t, s[:at]+string([]byte{byte(x)})+s[at+1:])
				}
			}
			for _, x := range []string{"@daily", " @daily", "@daily ", " @daily ", " * ", "   ", "é", "\u00a0"} {
				read(t, s[:at]+x+s[at:])
			}
			if at < len(s) {
				read(t, s[:at]+s[at+1:])
			}
		}
	}
}

// someText is words that are put together: mostly of their kinds, now and then too many, too few, or wrong ones.
func someText(r *rand.Rand) string {
	bad := []string{"x", "60", "1,", ",1", "1,2,99", "@daily", "@never", "@", "*/0", "5-3", "00", "JAN", "SUN", "1,,2", "\t"}
	s := strings.Repeat(" ", r.Intn(3)*r.Intn(2))
	count := 5
	if r.Intn(4) == 0 {
		count = r.Intn(8)
	}
	for i := range count {
		w, _ := field.Text(i%5, someField(r, i%5))
		switch r.Intn(16) {
		case 0:
			w = bad[r.Intn(len(bad))]
		case 1:
			w += "," + bad[r.Intn(len(bad))]
		}
		s += w + strings.Repeat(" ", 1+r.Intn(3)*r.Intn(2))
	}
	if r.Intn(2) == 0 {
		s = strings.TrimRight(s, " ")
	}
	return s
}

// P7.2: texts of all sorts.
func TestReadMany(t *testing.T) {
	r := rand.New(rand.NewSource(72))
	for range 30000 {
		read(t, someText(r))
	}
}

// P7.2: MaxText bytes may be, one more may not, whatever they are.
func TestReadLong(t *testing.T) {
	for _, n := range []int{255, 256, 257, 258, 512, 100000} {
		for _, s := range []string{"* * * * *", "@daily", "", "@never", "0 25 * * *", "0 9 * * 1 2", "0 9 * *"} {
			read(t, s+strings.Repeat(" ", n-len(s)))
			read(t, strings.Repeat(" ", n-len(s))+s)
			read(t, s+strings.Repeat("x", n-len(s)))
			read(t, s+strings.Repeat(" x", n)[:n-len(s)])
		}
		read(t, strings.Repeat("1,", n/2)[:n-9]+"2 * * * *")
		read(t, strings.Repeat("@", n))
		read(t, strings.Repeat("* ", n)[:n])
	}
	s := strings.Repeat("1,", 123) + "2 * * * *"
	if c, at, e := cron.Read(s + " "); len(s) != 255 || c != with(every(), 0, of(1, 2)) || at != 0 || e != api.OK {
		t.Errorf("Read of 256 bytes: %x %d %d", c, at, e)
	}
	if c, at, e := cron.Read(s + "  "); c != (api.Cron{}) || at != 0 || e != api.ErrLong {
		t.Errorf("Read of 257 bytes: %x %d %d", c, at, e)
	}
	if c, at, e := cron.Read(s + "x"); c != (api.Cron{}) || at != 254 || e != api.ErrCron {
		t.Errorf("Read of a last word that is wrong: %x %d %d", c, at, e)
	}
	if c, at, e := cron.Read(strings.Repeat(" ", 256)); c != (api.Cron{}) || at != 256 || e != api.ErrCron {
		t.Errorf("Read of 256 blanks: %x %d %d", c, at, e)
	}
}

// P7.3: the one text, by name.
func TestTextNamed(t *testing.T) {
	for _, q := range []struct {
		c    api.Cron
		want string
	}{
		{every(), "* * * * *"},
		{meanings["@yearly"], "0 0 1 1 *"}, {meanings["@monthly"], "0 0 1 * *"}, {meanings["@weekly"], "0 0 * * 0"}, {meanings["@daily"], "0 0 * * *"}, {meanings["@hourly"], "0 * * * *"},
		{api.Cron{Minute: of(59), Hour: of(23), Day: of(31), Month: of(12), Weekday: of(6)}, "59 23 31 12 6"},
		{api.Cron{Minute: of(1), Hour: of(2), Day: of(3), Month: of(4), Weekday: of(5)}, "1 2 3 4 5"},
		{api.Cron{Minute: of(0, 15, 30, 45), Hour: of(8, 13, 18), Day: of(1, 16, 31), Month: of(1, 6, 11), Weekday: of(0, 2, 4, 6)}, "*/15 8,13,18 */15 */5 */2"},
		{api.Cron{Minute: of(0, 1, 2), Hour: of(0, 12), Day: allDays &^ of(31), Month: of(2, 3), Weekday: of(0, 5, 6)}, "0-2 0,12 1-30 2-3 0,5-6"},
	} {
		if s, e := cron.Text(q.c); s != q.want || e != api.OK {
			t.Errorf("Text(%x): %q %d, want %q", q.c, s, e, q.want)
		}
	}
}

// P7.3: the fields' one texts, in their order, a blank between each two.
func TestText(t *testing.T) {
	r := rand.New(rand.NewSource(73))
	for range 5000 {
		c := someCron(r)
		want := ""
		for kind := range 5 {
			s, _ := field.Text(kind, get(c, kind))
			want += s + " "
		}
		want = want[:len(want)-1]
		if s, e := cron.Text(c); s != want || e != api.OK {
			t.Fatalf("Text(%x): %q %d, want %q", c, s, e, want)
		}
	}
}

// P7.3: crons that may not be have no text.
func TestTextWrong(t *testing.T) {
	for _, c := range wrongCrons() {
		if s, e := cron.Text(c); s != "" || e != api.ErrCron {
			t.Errorf("Text(%x): %q %d", c, s, e)
		}
	}
}

// P7.4: dates by name.
func TestDayNamed(t *testing.T) {
	for _, q := range []struct {
		text string
		d    api.Date
		want bool
	}{
		// A day and a weekday: one of both is enough.
		{"0 0 13 * 5", api.Date{Year: 2026, Month: 11, Day: 13}, true}, {"0 0 13 * 5", api.Date{Year: 2026, Month: 11, Day: 15}, false}, {"0 0 13 * 5", api.Date{Year: 2026, Month: 12, Day: 13}, true}, {"0 0 13 * 5", api.Date{Year: 2026, Month: 11, Day: 20}, true},
		// One of both is whole, however that is written: the other one decides.
		{"0 0 13 * *", api.Date{Year: 2026, Month: 11, Day: 20}, false}, {"0 0 13 * *", api.Date{Year: 2026, Month: 12, Day: 13}, true}, {"0 0 13 * 0-6", api.Date{Year: 2026, Month: 11, Day: 20}, false}, {"0 0 13 * 1-7", api.Date{Year: 2026, Month: 11, Day: 20}, false},
		{"0 0 * * 5", api.Date{Year: 2026, Month: 11, Day: 20}, true}, {"0 0 * * 5", api.Date{Year: 2026, Month: 11, Day: 19}, false}, {"0 0 1-31 * 5", api.Date{Year: 2026, Month: 11, Day: 19}, false}, {"0 0 */1 * 5", api.Date{Year: 2026, Month: 11, Day: 19}, false},
		// Nearly whole is not whole.
		{"0 0 1-30 * 5", api.Date{Year: 2026, Month: 11, Day: 19}, true}, {"0 0 1-30 * 5", api.Date{Year: 2026, Month: 12, Day: 31}, false}, {"0 0 13 * 0-5", api.Date{Year: 2026, Month: 11, Day: 20}, true}, {"0 0 13 * 0-5", api.Date{Year: 2026, Month: 11, Day: 21}, false},
		// Both are whole.
		{"0 0 * * *", api.Date{Year: 2026, Month: 11, Day: 19}, true}, {"5 6 * 11 *", api.Date{Year: 2026, Month: 12, Day: 1}, false},
		// The month has to be one of Month's, whatever the rest.
		{"0 0 13 12 5", api.Date{Year: 2026, Month: 11, Day: 13}, false}, {"0 0 13 12 5", api.Date{Year: 2026, Month: 12, Day: 4}, true},
		// The calendar's edges.
		{"0 0 1 1 4", api.Date{Year: 1970, Month: 1, Day: 1}, true}, {"0 0 * * 4", api.Date{Year: 1970, Month: 1, Day: 1}, true}, {"0 0 * * 3", api.Date{Year: 1970, Month: 1, Day: 1}, false}, {"0 0 * * 5", api.Date{Year: 9999, Month: 12, Day: 31}, true}, {"0 0 31 12 *", api.Date{Year: 9999, Month: 12, Day: 31}, true}, {"0 0 29 2 *", api.Date{Year: 2024, Month: 2, Day: 29}, true}, {"0 0 29 2 *", api.Date{Year: 2000, Month: 2, Day: 29}, true},
	} {
		if is := cron.Day(mustRead(t, q.text), q.d); is != q.want {
			t.Errorf("Day(%s, %v): %v", q.text, q.d, is)
		}
	}
}

// P7.4: of each day and weekday, whole or one alone or all but one, each date of some years.
func TestDay(t *testing.T) {
	l := append(calendar(1970, 1972), calendar(2023, 2028)...)
	l = append(l, calendar(2099, 2100)...)
	for n := 0; n <= 31; n++ {
		for w := -1; w <= 6; w++ {
			one, less := every(), every()
			if n > 0 {
				one.Day, less.Day = of(n), allDays&^of(n)
			}
			if w >= 0 {
				one.Weekday, less.Weekday = of(w), allWeekdays&^of(w)
			}
			for _, c := range []api.Cron{one, less, with(one, 3, of(2)), with(less, 3, allMonths&^of(2)), with(with(one, 0, of(59)), 1, of(23))} {
				for _, d := range l {
					if is := cron.Day(c, d.date); is != fits(c, d) {
						t.Fatalf("Day(%x, %v): %v", c, d, is)
					}
				}
			}
		}
	}
}

// P7.4: crons of all sorts, and the whole calendar.
func TestDayMany(t *testing.T) {
	r := rand.New(rand.NewSource(74))
	var l []api.Cron
	for range 100 {
		l = append(l, someCron(r))
	}
	for i, d := range calendar(1970, 9999) {
		c := l[i%len(l)]
		if is := cron.Day(c, d.date); is != fits(c, d) {
			t.Fatalf("Day(%x, %v): %v", c, d, is)
		}
	}
}

// P7.4: no date fits that may not be, nor a cron that may not be.
func TestDayWrong(t *testing.T) {
	for _, d := range []api.Date{
		{}, {Year: 1969, Month: 12, Day: 31}, {Year: 10000, Month: 1, Day: 1}, {Year: 2023, Month: 2, Day: 29}, {Year: 2100, Month: 2, Day: 29}, {Year: 2024, Month: 2, Day: 30}, {Year: 2024, Month: 4, Day: 31},
		{Year: 2024, Month: 0, Day: 1}, {Year: 2024, Month: 13, Day: 1}, {Year: 2024, Month: 1, Day: 0}, {Year: 2024, Month: 1, Day: 32}, {Year: 2024, Month: -1, Day: 1}, {Year: 2024, Month: 1, Day: -1}, {Year: -2024, Month: 1, Day: 1}, {Year: 0, Month: 1, Day: 1},
		{Year: 2024, Month: 65, Day: 1}, {Year: 2024, Month: 1, Day: 65}, {Year: math.MaxInt, Month: math.MaxInt, Day: math.MaxInt}, {Year: math.MinInt, Month: math.MinInt, Day: math.MinInt},
	} {
		for _, c := range []api.Cron{every(), with(every(), 2, of(29, 30, 31)), with(every(), 4, of(1)), with(with(every(), 2, of(1)), 4, of(4))} {
			if cron.Day(c, d) {
				t.Errorf("Day(%x, %v)", c, d)
			}
		}
	}
	for _, c := range wrongCrons() {
		for _, d := range calendar(2024, 2024) {
			if cron.Day(c, d.date) {
				t.Fatalf("Day(%x, %v)", c, d)
			}
		}
	}
}

// at holds At of a day's second against the chapter's words.
func at(t *testing.T, c api.Cron, d day, second int64) {
	t.Helper()
	want := fits(c, d) && has(c.Hour, int(second/3600)) && has(c.Minute, int(second/60%60)) && second%60 == 0
	if is := cron.At(c, d.num*86400+second); is != want {
		t.Fatalf("At(%x, %v and %d seconds): %v", c, d, second, is)
	}
}

// P7.4: times by name.
func TestAtNamed(t *testing.T) {
	for _, q := range []struct {
		text string
		t    int64
		want bool
	}{
		{"@hourly", 0, true}, {"@hourly", 7200, true}, {"@hourly", 7201, false}, {"@hourly", 7259, false}, {"@hourly", 7260, false}, {"@hourly", 7199, false},
		{"* * * * *", 0, true}, {"* * * * *", 1, false}, {"* * * * *", 59, false}, {"* * * * *", 60, true}, {"* * * * *", lastTime, false}, {"* * * * *", lastTime - 59, true},
		{"@daily", 86400, true}, {"@daily", 86400 + 3600, false}, {"@daily", 86400 + 60, false}, {"@yearly", 0, true}, {"@yearly", 365 * 86400, true}, {"@yearly", 366 * 86400, false}, {"@monthly", 31 * 86400, true}, {"@monthly", 30 * 86400, false}, {"@weekly", 3 * 86400, true}, {"@weekly", 4 * 86400, false},
		{"59 23 31 12 *", lastTime - 59, true}, {"59 23 * * 5", lastTime - 59, true}, {"59 23 * * 6", lastTime - 59, false}, {"58 23 31 12 *", lastTime - 59, false}, {"59 22 31 12 *", lastTime - 59, false}, {"0 9 * * 1-5", 32400, true}, {"0 9 * * 1-3", 32400, false},
	} {
		if is := cron.At(mustRead(t, q.text), q.t); is != q.want {
			t.Errorf("At(%s, %d): %v", q.text, q.t, is)
		}
	}
}

// P7.4: each second of a day, and each minute of some, for crons of all sorts.
func TestAt(t *testing.T) {
	l := calendar(1970, 2030)
	r := rand.New(rand.NewSource(75))
	for _, c := range []api.Cron{every(), meanings["@hourly"], with(every(), 0, of(59)), with(with(every(), 0, of(7, 30)), 1, of(0, 23)), with(every(), 3, of(1)), with(every(), 3, of(2))} {
		for second := range int64(86400) {
			at(t, c, l[0], second)
		}
	}
	for range 200 {
		c := someCron(r)
		for range 5 {
			d := l[r.Intn(len(l))]
			for second := int64(0); second < 86400; second += 60 {
				at(t, c, d, second)
			}
			for range 50 {
				at(t, c, d, r.Int63n(86400))
			}
		}
	}
}

// P7.4: no time fits that is none, nor a cron that may not be.
func TestAtWrong(t *testing.T) {
	wrong := []int64{math.MinInt64, math.MinInt64 + 1, -86400, -3600, -60, -1, lastTime + 1, lastTime + 2, lastTime + 61, lastTime + 86401, 1 << 62, math.MaxInt64 - 1, math.MaxInt64}
	for n := int64(1); n < 200; n++ {
		wrong = append(wrong, -60*n, lastTime+1+60*(n-1), math.MinInt64/60*60+60*n, math.MaxInt64/60*60-60*n)
	}
	for _, n := range wrong {
		for _, c := range []api.Cron{every(), meanings["@hourly"]} {
			if cron.At(c, n) {
				t.Errorf("At(%x, %d)", c, n)
			}
		}
	}
	for _, c := range wrongCrons() {
		for n := int64(0); n < 86400; n += 60 {
			if cron.At(c, n) || cron.At(c, lastTime-59-n) {
				t.Fatalf("At(%x, %d), or as far ahead of the end", c, n)
			}
		}
	}
}

// widest is a cron with the longest one text that there is.
func widest(t *testing.T) api.Cron {
	return mustRead(t, "1-2,4-5,7-8,10-11,13-14,16-17,19-20,22-23,25-26,28-29,31-32,34-35,37-38,40-41,43-44,46-47,49-50,52-53,55-56,58-59 "+
		"1-2,4-5,7-8,10-11,13-14,16-17,19-20,22-23 1,3-4,6-7,9-10,12-13,15-16,18-19,21-22,24-25,27-28,30-31 2-3,5-6,8-9,11-12 0,2-3,5-6")
}

// P7.5: Read of Text is the cron, of the one with the longest text, too.
func TestBack(t *testing.T) {
	r := rand.New(rand.NewSource(76))
	l := []api.Cron{every(), widest(t)}
	for range 5000 {
		l = append(l, someCron(r))
	}
	for _, c := range l {
		s, e := cron.Text(c)
		if back, at, f := cron.Read(s); back != c || at != 0 || e != api.OK || f != api.OK {
			t.Fatalf("Read(%q) of Text(%x): %x %d %d %d", s, c, back, at, e, f)
		}
	}
	if s, _ := cron.Text(l[1]); len(s) != 240 {
		t.Errorf("the longest text: %d bytes", len(s))
	}
}

// P7.5: a macro's text reads as what it means, and so do the five words that the chapter gives.
func TestMacroRead(t *testing.T) {
	for s, five := range map[string]string{"@yearly": "0 0 1 1 *", "@annually": "0 0 1 1 *", "@monthly": "0 0 1 * *", "@weekly": "0 0 * * 0", "@daily": "0 0 * * *", "@midnight": "0 0 * * *", "@hourly": "0 * * * *"} {
		c, ok := cron.Macro(s)
		if c != mustRead(t, s) || c != mustRead(t, five) || !ok || cron.Check(c) != api.OK {
			t.Errorf("Macro(%q): %x %v", s, c, ok)
		}
	}
}

// P7.5: more blanks change nothing: where some stand, ahead, behind.
func TestBlanks(t *testing.T) {
	r := rand.New(rand.NewSource(77))
	for range 3000 {
		c := someCron(r)
		s, _ := cron.Text(c)
		if r.Intn(10) == 0 {
			s, c = "@monthly", meanings["@monthly"]
		}
		for range 5 {
			words := strings.Split(s, " ")
			for i := range words {
				words[i] += strings.Repeat(" ", r.Intn(3))
			}
			more := strings.Repeat(" ", r.Intn(3)) + strings.Join(words, " ")
			if len(more) > 256 {
				continue
			}
			if back, at, e := cron.Read(more); back != c || at != 0 || e != api.OK {
				t.Fatalf("Read(%q): %x %d %d, want %x", more, back, at, e, c)
			}
		}
	}
}

// P7.5: who has more minutes, hours or months fits no less often; what fits is a whole minute.
func TestMore(t *testing.T) {
	r := rand.New(rand.NewSource(78))
	for range 300 {
		c := someCron(r)
		more := c
		for _, kind := range []int{0, 1, 3} {
			more = with(more, kind, get(more, kind)|someField(r, kind))
		}
		for range 300 {
			n := r.Int63n(lastTime)
			if r.Intn(4) > 0 {
				n -= n % 60
			}
			if cron.At(c, n) && (!cron.At(more, n) || n%60 != 0) {
				t.Fatalf("At(%x, %d), of %x", more, n, c)
			}
		}
	}
}

// P7.5: with the whole Day the Weekday alone decides, with the whole Weekday the Day alone.
func TestAlone(t *testing.T) {
	l := calendar(2026, 2028)
	for _, d := range l {
		for w := range 7 {
			if is := cron.Day(with(every(), 4, of(w)), d.date); is != (w == d.weekday) {
				t.Fatalf("Day of weekday %d, %v: %v", w, d, is)
			}
		}
		for n := 1; n <= 31; n++ {
			if is := cron.Day(with(every(), 2, of(n)), d.date); is != (n == d.date.Day) {
				t.Fatalf("Day of day %d, %v: %v", n, d, is)
			}
		}
	}
}

// R5: an answer hangs on nothing that was asked ahead of it.
func TestAgain(t *testing.T) {
	r := rand.New(rand.NewSource(79))
	var texts []string
	var first []api.Cron
	for range 500 {
		s := someText(r)
		c, _, _ := cron.Read(s)
		texts, first = append(texts, s), append(first, c)
	}
	for i := len(texts) - 1; i >= 0; i-- {
		cron.Macro("@yearly")
		if c, _, _ := cron.Read(texts[i]); c != first[i] {
			t.Errorf("Read(%q): %x, and then %x", texts[i], first[i], c)
		}
	}
}
