package mask_test

import (
	"math"
	"math/rand"
	"slices"
	"testing"

	"curfew/api"
	"curfew/mask"
)

// edges are numbers about the ends of a mask, and as far off as there are any.
func edges() []int {
	l := []int{math.MinInt, math.MinInt + 1, math.MinInt + 63, math.MinInt32, -128, math.MaxInt32, 1 << 32, 1<<32 + 5, math.MaxInt - 63, math.MaxInt - 1, math.MaxInt}
	for n := -66; n <= 130; n++ {
		l = append(l, n)
	}
	return l
}

// holds is a mask's number by the words of the chapter: its bit of the value 2^n is 1.
func holds(m api.Mask, n int) bool {
	if n < 0 || n > 63 {
		return false
	}
	v := uint64(m)
	for range n {
		v /= 2
	}
	return v%2 == 1
}

// list is what a mask has, told by holds alone.
func list(m api.Mask) []int {
	var l []int
	for n := 0; n < 64; n++ {
		if holds(m, n) {
			l = append(l, n)
		}
	}
	return l
}

// of is the mask of numbers from 0 to 63, told by sums alone.
func of(l ...int) api.Mask {
	var m api.Mask
	for _, n := range l {
		if !holds(m, n) {
			m += api.Mask(math.Pow(2, float64(n)))
		}
	}
	return m
}

// masks are ordinary ones, those at the edges, and some of each thickness; the same in every run.
func masks() []api.Mask {
	l := []api.Mask{0, 1, 2, 3, 1 << 63, 1<<63 | 1, 1<<63 - 1, 1 << 31, 1 << 32, 3 << 31, 7 << 61, ^api.Mask(0), ^api.Mask(1), 0x5555555555555555, 0xAAAAAAAAAAAAAAAA, 0xFFFFFFFF, 0xFFFFFFFF00000000}
	for n := range 64 {
		l = append(l, of(n), ^of(n))
	}
	r := rand.New(rand.NewSource(1))
	for range 60 {
		a, b, c := r.Uint64(), r.Uint64(), r.Uint64()
		l = append(l, api.Mask(a), api.Mask(a&b), api.Mask(a|b), api.Mask(a&b&c), api.Mask(a|b|c))
	}
	return l
}

// P1.1: ordinary numbers, in whatever order, however often.
func TestOf(t *testing.T) {
	for _, c := range []struct {
		l    []int
		want api.Mask
	}{
		{nil, 0},
		{[]int{}, 0},
		{[]int{0}, 1},
		{[]int{63}, 1 << 63},
		{[]int{31, 32}, 3 << 31},
		{[]int{0, 3, 3, 63}, 1<<63 + 9},
		{[]int{63, 3, 0, 3}, 1<<63 + 9},
		{[]int{5, 4, 3}, 56},
	} {
		if m, e := mask.Of(c.l...); m != c.want || e != api.OK {
			t.Errorf("Of(%v): %x %d, want %x", c.l, m, e, c.want)
		}
	}
	for n := range 64 {
		if m, e := mask.Of(n); !slices.Equal(list(m), []int{n}) || e != api.OK {
			t.Errorf("Of(%d): %x %d", n, m, e)
		}
	}
}

// P1.1: one number that no mask has, at whatever place, is told, and nothing besides.
func TestOfWrong(t *testing.T) {
	for _, n := range edges() {
		want := api.ErrArg
		if 0 <= n && n <= 63 {
			want = api.OK
		}
		for _, l := range [][]int{{n}, {n, 1, 2}, {1, n, 2}, {1, 2, n}} {
			m, e := mask.Of(l...)
			if e != want || e != api.OK && m != 0 {
				t.Errorf("Of(%v): %x %d, want %d", l, m, e, want)
			}
		}
	}
}

// P1.1: each span that may be, told number by number.
func TestSpan(t *testing.T) {
	steps := []int{65, 66, 128, 1 << 32, 1<<32 + 1, math.MaxInt - 63, math.MaxInt - 1, math.MaxInt}
	for n := 1; n <= 64; n++ {
		steps = append(steps, n)
	}
	for from := 0; from <= 63; from++ {
		for to := from; to <= 63; to++ {
			for _, step := range steps {
				var want api.Mask
				for n := from; n <= to; n++ {
					if (n-from)%step == 0 {
						want |= 1 << n
					}
				}
				if m, e := mask.Span(from, to, step); m != want || e != api.OK {
					t.Fatalf("Span(%d, %d, %d): %x %d, want %x", from, to, step, m, e, want)
				}
			}
		}
	}
}

// P1.1: spans that may not be.
func TestSpanWrong(t *testing.T) {
	for _, c := range [][3]int{
		{-1, 5, 1}, {math.MinInt, 63, 1}, {math.MinInt, math.MinInt, 1}, {-2, -1, 1},
		{0, 64, 1}, {63, 64, 1}, {64, 64, 1}, {0, math.MaxInt, 1}, {math.MaxInt, math.MaxInt, 1},
		{3, 2, 1}, {63, 0, 1}, {1, -1, 1}, {64, 63, 1}, {math.MaxInt, 0, 1},
		{0, 63, 0}, {0, 63, -1}, {5, 5, 0}, {0, 63, math.MinInt},
		{-1, 64, 0},
	} {
		if m, e := mask.Span(c[0], c[1], c[2]); m != 0 || e != api.ErrArg {
			t.Errorf("Span(%v): %x %d", c, m, e)
		}
	}
	for _, from := range edges() {
		for _, to := range edges() {
			may := from >= 0 && to <= 63 && from <= to
			m, e := mask.Span(from, to, 3)
			if may != (e == api.OK) || !may && (e != api.ErrArg || m != 0) {
				t.Errorf("Span(%d, %d, 3): %x %d", from, to, m, e)
			}
		}
	}
}

// P1.2: Has, of all numbers, and of those that no mask has.
func TestHas(t *testing.T) {
	for _, m := range masks() {
		for _, n := range edges() {
			if mask.Has(m, n) != holds(m, n) {
				t.Errorf("Has(%x, %d): %v", m, n, mask.Has(m, n))
			}
		}
	}
}

// P1.2: Count and All.
func TestCountAll(t *testing.T) {
	for _, m := range masks() {
		want := list(m)
		if n := mask.Count(m); n != len(want) {
			t.Errorf("Count(%x): %d, want %d", m, n, len(want))
		}
		if l := mask.All(m); !slices.Equal(l, want) {
			t.Errorf("All(%x): %v, want %v", m, l, want)
		}
	}
	if n := mask.Count(^api.Mask(0)); n != 64 {
		t.Errorf("Count of all: %d", n)
	}
}

// P1.3: First, Last and Round from everywhere.
func TestSearch(t *testing.T) {
	for _, m := range masks() {
		l := list(m)
		for _, at := range edges() {
			first, is := 0, false
			last, was := 0, false
			for _, n := range l {
				if n >= at && !is {
					first, is = n, true
				}
				if n <= at {
					last, was = n, true
				}
			}
			if n, ok := mask.First(m, at); n != first || ok != is {
				t.Errorf("First(%x, %d): %d %v, want %d %v", m, at, n, ok, first, is)
			}
			if n, ok := mask.Last(m, at); n != last || ok != was {
				t.Errorf("Last(%x, %d): %d %v, want %d %v", m, at, n, ok, last, was)
			}
			if !is && len(l) > 0 {
				first, is = l[0], true
			}
			if n, ok := mask.Round(m, at); n != first || ok != is {
				t.Errorf("Round(%x, %d): %d %v, want %d %v", m, at, n, ok, first, is)
			}
		}
	}
}

// P1.4: And and Less, number by number, and Or of two; And and Less are told of both, in their order.
func TestTwo(t *testing.T) {
	l := masks()
	for i, a := range l {
		for _, b := range l[i%7:] {
			or, and, less := mask.Or(a, b), mask.And(a, b), mask.Less(a, b)
			for n := range 64 {
				x, y := holds(a, n), holds(b, n)
				if holds(or, n) != (x || y) || holds(and, n) != (x && y) || holds(less, n) != (x && !y) {
					t.Fatalf("%x and %x at %d: Or %x, And %x, Less %x", a, b, n, or, and, less)
				}
			}
		}
	}
}

// P1.4: Or of none, of one, and of many.
func TestOr(t *testing.T) {
	if m := mask.Or(); m != 0 {
		t.Errorf("Or of none: %x", m)
	}
	if m := mask.Or([]api.Mask{}...); m != 0 {
		t.Errorf("Or of an empty list: %x", m)
	}
	var l []api.Mask
	var sum api.Mask
	for n := 0; n < 64; n += 3 {
		l = append(l, of(n))
		sum += of(n)
		if m := mask.Or(l...); m != sum {
			t.Errorf("Or of %d: %x, want %x", len(l), m, sum)
		}
	}
	for _, a := range masks() {
		if m := mask.Or(a); m != a {
			t.Errorf("Or(%x): %x", a, m)
		}
	}
}

// P1.5: the runs, by the chapter's words: all of From to To, and neither neighbour.
func TestRuns(t *testing.T) {
	for _, c := range []struct {
		m    api.Mask
		want []api.Run
	}{
		{0, nil},
		{^api.Mask(0), []api.Run{{From: 0, To: 63}}},
		{1, []api.Run{{From: 0, To: 0}}},
		{1 << 63, []api.Run{{From: 63, To: 63}}},
		{1<<63 | 1, []api.Run{{From: 0, To: 0}, {From: 63, To: 63}}},
		{3<<62 | 3, []api.Run{{From: 0, To: 1}, {From: 62, To: 63}}},
		{of(1, 2, 3, 7, 9, 10), []api.Run{{From: 1, To: 3}, {From: 7, To: 7}, {From: 9, To: 10}}},
	} {
		if l := mask.Runs(c.m); !slices.Equal(l, c.want) {
			t.Errorf("Runs(%x): %v, want %v", c.m, l, c.want)
		}
	}
	for _, m := range masks() {
		var want []api.Run
		for from := range 64 {
			for to := from; to < 64 && holds(m, to); to++ {
				if !holds(m, from-1) && !holds(m, to+1) {
					want = append(want, api.Run{From: from, To: to})
				}
			}
		}
		if l := mask.Runs(m); !slices.Equal(l, want) {
			t.Errorf("Runs(%x): %v, want %v", m, l, want)
		}
	}
}

// P1.6: Of of All, the Spans of the runs, and First from one on, and from the next one on.
func TestFollows(t *testing.T) {
	for _, m := range masks() {
		if x, e := mask.Of(mask.All(m)...); x != m || e != api.OK {
			t.Errorf("Of of All of %x: %x %d", m, x, e)
		}
		var parts []api.Mask
		end := -2
		for _, r := range mask.Runs(m) {
			x, e := mask.Span(r.From, r.To, 1)
			if e != api.OK || r.From <= end+1 {
				t.Errorf("Runs of %x: %v behind %d, %d", m, r, end, e)
			}
			parts = append(parts, x)
			end = r.To
		}
		if x := mask.Or(parts...); x != m {
			t.Errorf("Spans of the runs of %x: %x", m, x)
		}
		var l []int
		for n, ok := mask.First(m, 0); ok; n, ok = mask.First(m, n+1) {
			if l = append(l, n); len(l) > 64 {
				break
			}
		}
		if !slices.Equal(l, mask.All(m)) {
			t.Errorf("First, one behind the other, of %x: %v", m, l)
		}
	}
}

// P1.6: what two have alone, and what they have both, is what they have together.
func TestCounts(t *testing.T) {
	l := masks()
	for i, a := range l {
		for _, b := range l[i%5:] {
			parts := mask.Count(mask.Less(a, b)) + mask.Count(mask.Less(b, a)) + mask.Count(mask.And(a, b))
			if n := mask.Count(mask.Or(a, b)); n != parts {
				t.Errorf("Counts of %x and %x: %d, want %d", a, b, n, parts)
			}
		}
	}
}

// R3: what is handed in stays as it is, the room behind a list's end, too.
func TestHandedIn(t *testing.T) {
	l := []int{3, 1, 2, 99}
	mask.Of(l[:3]...)
	if !slices.Equal(l, []int{3, 1, 2, 99}) {
		t.Errorf("Of changed its list: %v", l)
	}
	k := []api.Mask{1, 2, 4, 8}
	if m := mask.Or(k[:3]...); m != 7 || !slices.Equal(k, []api.Mask{1, 2, 4, 8}) {
		t.Errorf("Or changed its list, or looked behind it: %x %v", m, k)
	}
}

// R3: what is answered is new memory, and hangs on nothing that was done to an earlier answer.
func TestAnswered(t *testing.T) {
	m := of(1, 2, 3, 7)
	a, b := mask.All(m), mask.All(m)
	clear(a[:cap(a)])
	if want := []int{1, 2, 3, 7}; !slices.Equal(b, want) || !slices.Equal(mask.All(m), want) {
		t.Errorf("All shares its answers: %v", b)
	}
	x, y := mask.Runs(m), mask.Runs(m)
	clear(x[:cap(x)])
	if want := []api.Run{{From: 1, To: 3}, {From: 7, To: 7}}; !slices.Equal(y, want) || !slices.Equal(mask.Runs(m), want) {
		t.Errorf("Runs shares its answers: %v", y)
	}
}
