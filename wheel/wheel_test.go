package wheel_test

import (
	"math"
	"math/rand"
	"slices"
	"testing"

	"curfew/api"
	"curfew/wheel"
)

const (
	lastTime = 253402300799 // 9999-12-31 23:59:59
	most     = 64           // dues
	levels   = 4
)

// model is a wheel by the words of the chapter: a time, and dues in order.
type model struct {
	now  int64
	dues []api.Due
}

// put is what Put has to do.
func (m *model) put(d api.Due) api.Errno {
	switch {
	case d.At <= m.now || d.At > lastTime:
		return api.ErrArg
	case m.has(d.Num):
		return api.ErrThere
	case len(m.dues) == most:
		return api.ErrFull
	}
	m.dues = append(m.dues, d)
	slices.SortFunc(m.dues, func(a, b api.Due) int {
		if a.At < b.At || a.At == b.At && a.Num < b.Num {
			return -1
		}
		return 1
	})
	return api.OK
}

// has tells whether there is a due of that Num.
func (m *model) has(num uint64) bool {
	return slices.ContainsFunc(m.dues, func(d api.Due) bool { return d.Num == num })
}

// cut is what Cut has to do.
func (m *model) cut(num uint64) api.Errno {
	if !m.has(num) {
		return api.ErrNone
	}
	m.dues = slices.DeleteFunc(m.dues, func(d api.Due) bool { return d.Num == num })
	return api.OK
}

// turn is what Turn has to do.
func (m *model) turn(now int64) ([]api.Due, api.Errno) {
	if now < m.now || now > lastTime {
		return nil, api.ErrArg
	}
	var told, left []api.Due
	for _, d := range m.dues {
		if d.At <= now {
			told = append(told, d)
		} else {
			left = append(left, d)
		}
	}
	m.now, m.dues = now, left
	return told, api.OK
}

// placeOf is a due's place, bit by bit.
func placeOf(now, at int64) (int, int) {
	b := 62
	for now>>b&1 == at>>b&1 {
		b--
	}
	if b >= 24 {
		return levels, 0
	}
	level := b / 6
	slot := at
	for range level {
		slot /= 64
	}
	return level, int(slot % 64)
}

// mustNew is a wheel at a time that has to be one.
func mustNew(t *testing.T, now int64) *wheel.Wheel {
	t.Helper()
	w, e := wheel.New(now)
	if w == nil || e != api.OK {
		t.Fatalf("New(%d): %v %d", now, w, e)
	}
	return w
}

// mustPut puts dues that have to go in.
func mustPut(t *testing.T, w *wheel.Wheel, l ...api.Due) {
	t.Helper()
	for _, d := range l {
		if e := w.Put(d); e != api.OK {
			t.Fatalf("Put(%v) at %d: %d", d, w.Now(), e)
		}
	}
}

// mustTurn turns a wheel to where it has to go.
func mustTurn(t *testing.T, w *wheel.Wheel, now int64) []api.Due {
	t.Helper()
	l, e := w.Turn(now)
	if e != api.OK {
		t.Fatalf("Turn(%d) at %d: %d", now, w.Now(), e)
	}
	return l
}

// same holds all that a wheel tells against the model.
func same(t *testing.T, w *wheel.Wheel, m *model) {
	t.Helper()
	if w.Now() != m.now || w.Len() != len(m.dues) || !slices.Equal(w.All(), m.dues) {
		t.Fatalf("at %d, %d dues: %v; want at %d: %v", w.Now(), w.Len(), w.All(), m.now, m.dues)
	}
	d, ok := w.First()
	if ok != (len(m.dues) > 0) || ok && d != m.dues[0] || !ok && d != (api.Due{}) {
		t.Fatalf("First: %v %v, of %v", d, ok, m.dues)
	}
	for _, d := range m.dues {
		level, slot := placeOf(m.now, d.At)
		if a, b, ok := w.Place(d.Num); a != level || b != slot || !ok {
			t.Fatalf("Place of %v at %d: %d %d %v, want %d %d", d, m.now, a, b, ok, level, slot)
		}
	}
	for _, num := range []uint64{0, 1, 7, 1 << 40, math.MaxUint64} {
		if m.has(num) {
			continue
		}
		if a, b, ok := w.Place(num); a != 0 || b != 0 || ok {
			t.Fatalf("Place of none, %d: %d %d %v", num, a, b, ok)
		}
	}
}

// atEdges are times at which some bits of a time turn over, and their neighbours.
func atEdges() []int64 {
	l := []int64{0, 1, 2, 3, lastTime / 3, lastTime - 1<<24, lastTime - 64, lastTime - 1, lastTime}
	for b := range 38 {
		for _, far := range []int64{-2, -1, 0, 1, 2} {
			for _, base := range []int64{0, 5 << 24, lastTime &^ (1<<25 - 1)} {
				if t := base + 1<<b + far; t >= 0 && t <= lastTime {
					l = append(l, t)
				}
			}
		}
	}
	slices.Sort(l)
	return slices.Compact(l)
}

// notTimes are numbers that are no times.
var notTimes = []int64{math.MinInt64, math.MinInt64 + 1, -1 << 40, -64, -1, lastTime + 1, lastTime + 2, 1 << 38, 1 << 40, math.MaxInt64 - 1, math.MaxInt64}

// P9.1: wheels at all sorts of times, without dues.
func TestNew(t *testing.T) {
	for _, now := range atEdges() {
		same(t, mustNew(t, now), &model{now: now})
	}
}

// P9.1: no wheel is at what is no time.
func TestNewWrong(t *testing.T) {
	for _, now := range notTimes {
		if w, e := wheel.New(now); w != nil || e != api.ErrArg {
			t.Errorf("New(%d): %v %d", now, w, e)
		}
	}
}

// P9.1: what is put is there, whatever its number; what is not behind Now, or behind all times, is not.
func TestPut(t *testing.T) {
	for _, now := range []int64{0, 1, 63, 64, 1 << 24, lastTime - 1, lastTime} {
		w, m := mustNew(t, now), &model{now: now}
		for i, at := range []int64{now, now + 1, now - 1, 0, -1, lastTime, lastTime + 1, math.MinInt64, math.MaxInt64, now + 1, 1 << 38, now + 64} {
			d := api.Due{At: at, Num: uint64(i) * 0x1555555555555555}
			if e, want := w.Put(d), m.put(d); e != want {
				t.Errorf("Put(%v) at %d: %d, want %d", d, now, e, want)
			}
			same(t, w, m)
		}
	}
}

// P9.1: a Num that is there, at whatever time, is not put once more, but when it was cut or told.
func TestPutThere(t *testing.T) {
	w, m := mustNew(t, 100), &model{now: 100}
	for _, c := range []struct {
		d    api.Due
		want api.Errno
	}{
		{api.Due{At: 101, Num: 0}, api.OK},
		{api.Due{At: 101, Num: 0}, api.ErrThere},
		{api.Due{At: 102, Num: 0}, api.ErrThere},
		{api.Due{At: lastTime, Num: 0}, api.ErrThere},
		{api.Due{At: 101, Num: math.MaxUint64}, api.OK},
		{api.Due{At: 1 << 30, Num: math.MaxUint64}, api.ErrThere},
		{api.Due{At: 1 << 30, Num: 1}, api.OK},
		{api.Due{At: 101, Num: 1}, api.ErrThere},
		{api.Due{At: 5000, Num: 2}, api.OK},
		{api.Due{At: 101, Num: 2}, api.ErrThere},
	} {
		if e, want := w.Put(c.d), m.put(c.d); e != c.want || want != c.want {
			t.Errorf("Put(%v): %d, want %d", c.d, e, c.want)
		}
		same(t, w, m)
	}
	for _, num := range []uint64{0, 1, 2, math.MaxUint64} {
		if e := w.Cut(num); e != api.OK {
			t.Errorf("Cut(%d): %d", num, e)
		}
		mustPut(t, w, api.Due{At: 200, Num: num})
	}
	if l := mustTurn(t, w, 200); len(l) != 4 {
		t.Errorf("Turn: %v", l)
	}
	mustPut(t, w, api.Due{At: 201, Num: 0}, api.Due{At: 201, Num: math.MaxUint64})
}

// P9.1: there is room for so many dues, wherever they stand, and for one more behind each that goes.
func TestPutFull(t *testing.T) {
	for _, step := range []int64{0, 1, 64, 1 << 12, 1 << 18, 1 << 24, 1 << 31} {
		w, m := mustNew(t, 1000), &model{now: 1000}
		for i := range int64(most) {
			d := api.Due{At: 1001 + i*step, Num: uint64(i)}
			mustPut(t, w, d)
			m.put(d)
		}
		same(t, w, m)
		for _, at := range []int64{1001, 1002, 1 << 30, lastTime} {
			if e := w.Put(api.Due{At: at, Num: 99}); e != api.ErrFull {
				t.Errorf("Put of one more at %d: %d", at, e)
			}
		}
		same(t, w, m)
		if e := w.Cut(30); e != api.OK || m.cut(30) != api.OK {
			t.Errorf("Cut: %d", e)
		}
		mustPut(t, w, api.Due{At: 2000, Num: 99})
		m.put(api.Due{At: 2000, Num: 99})
		if e := w.Put(api.Due{At: 2000, Num: 30}); e != api.ErrFull {
			t.Errorf("Put behind a cut, twice: %d", e)
		}
		l := mustTurn(t, w, 1001)
		if want, _ := m.turn(1001); !slices.Equal(l, want) {
			t.Errorf("Turn: %v, want %v", l, want)
		}
		mustPut(t, w, api.Due{At: 1002, Num: 100})
		m.put(api.Due{At: 1002, Num: 100})
		same(t, w, m)
	}
}

// P9.1, R2: of several errors of Put the one that stands first is told.
func TestPutErrors(t *testing.T) {
	w := mustNew(t, 50)
	mustPut(t, w, api.Due{At: 60, Num: 7})
	wrong := func(d api.Due, want api.Errno) {
		t.Helper()
		if e := w.Put(d); e != want {
			t.Errorf("Put(%v): %d, want %d", d, e, want)
		}
	}
	wrong(api.Due{At: 50, Num: 7}, api.ErrArg)
	wrong(api.Due{At: lastTime + 1, Num: 7}, api.ErrArg)
	for i := range uint64(most - 1) {
		mustPut(t, w, api.Due{At: 70, Num: 100 + i})
	}
	wrong(api.Due{At: 50, Num: 8}, api.ErrArg)
	wrong(api.Due{At: lastTime + 1, Num: 8}, api.ErrArg)
	wrong(api.Due{At: 50, Num: 7}, api.ErrArg)
	wrong(api.Due{At: 60, Num: 7}, api.ErrThere)
	wrong(api.Due{At: 61, Num: 162}, api.ErrThere)
	wrong(api.Due{At: 61, Num: 8}, api.ErrFull)
}

// P9.1: what is cut is gone, wherever in its slot it stood, and all else stays.
func TestCut(t *testing.T) {
	for _, at := range []int64{2, 64, 1 << 12, 1 << 18, 1 << 24, lastTime} {
		for n := 1; n <= 5; n++ {
			for out := range n {
				w, m := mustNew(t, 1), &model{now: 1}
				for i := range n {
					for _, d := range []api.Due{{At: at, Num: uint64(i)}, {At: at - at%2 + 3, Num: uint64(20 + i)}} {
						if e, want := w.Put(d), m.put(d); e != want {
							t.Fatalf("Put(%v): %d, want %d", d, e, want)
						}
					}
				}
				num := uint64(out)
				if e, want := w.Cut(num), m.cut(num); e != api.OK || want != api.OK {
					t.Errorf("Cut(%d): %d", num, e)
				}
				same(t, w, m)
				if e := w.Cut(num); e != api.ErrNone {
					t.Errorf("Cut(%d) twice: %d", num, e)
				}
				same(t, w, m)
				got, _ := w.Turn(lastTime)
				if want, _ := m.turn(lastTime); !slices.Equal(got, want) {
					t.Errorf("Turn behind a cut: %v, want %v", got, want)
				}
			}
		}
	}
}

// P9.1: what was never there, or was told, can't be cut.
func TestCutNone(t *testing.T) {
	w := mustNew(t, 10)
	if e := w.Cut(0); e != api.ErrNone {
		t.Errorf("Cut of an empty wheel: %d", e)
	}
	mustPut(t, w, api.Due{At: 11, Num: 5}, api.Due{At: 1 << 30, Num: 6})
	for _, num := range []uint64{0, 4, 7, 11, math.MaxUint64} {
		if e := w.Cut(num); e != api.ErrNone {
			t.Errorf("Cut(%d): %d", num, e)
		}
	}
	mustTurn(t, w, 11)
	if e := w.Cut(5); e != api.ErrNone {
		t.Errorf("Cut of what was told: %d", e)
	}
	if e := w.Cut(6); e != api.OK || w.Len() != 0 {
		t.Errorf("Cut: %d, %d left", e, w.Len())
	}
}

// P9.1 to P9.4, R4: what a wheel that is not there tells.
func TestNil(t *testing.T) {
	var w *wheel.Wheel
	for _, at := range []int64{-1, 0, 1, lastTime, lastTime + 1} {
		if e := w.Put(api.Due{At: at, Num: 1}); e != api.ErrNil {
			t.Errorf("Put(%d) of nil: %d", at, e)
		}
		if l, e := w.Turn(at); len(l) != 0 || e != api.ErrNil {
			t.Errorf("Turn(%d) of nil: %v %d", at, l, e)
		}
	}
	if e := w.Cut(1); e != api.ErrNil {
		t.Errorf("Cut of nil: %d", e)
	}
	if w.Now() != 0 || w.Len() != 0 || len(w.All()) != 0 {
		t.Errorf("Now, Len, All of nil: %d %d %v", w.Now(), w.Len(), w.All())
	}
	if d, ok := w.First(); d != (api.Due{}) || ok {
		t.Errorf("First of nil: %v %v", d, ok)
	}
	if level, slot, ok := w.Place(0); level != 0 || slot != 0 || ok {
		t.Errorf("Place of nil: %d %d %v", level, slot, ok)
	}
}

// P9.2: where a wheel is not turned to, and that it stays as it is then.
func TestTurnWrong(t *testing.T) {
	w, m := mustNew(t, 1000), &model{now: 1000}
	for _, d := range []api.Due{{At: 1001, Num: 1}, {At: 1100, Num: 2}, {At: 1 << 30, Num: 3}} {
		mustPut(t, w, d)
		m.put(d)
	}
	for _, now := range append([]int64{0, 1, 936, 960, 999}, notTimes...) {
		if l, e := w.Turn(now); len(l) != 0 || e != api.ErrArg {
			t.Errorf("Turn(%d): %v %d", now, l, e)
		}
		same(t, w, m)
	}
	if l, e := w.Turn(1000); len(l) != 0 || e != api.OK {
		t.Errorf("Turn to Now: %v %d", l, e)
	}
	same(t, w, m)
	mustTurn(t, w, lastTime)
	if _, e := w.Turn(lastTime + 1); e != api.ErrArg || w.Now() != lastTime {
		t.Errorf("Turn behind all times: %d, at %d", e, w.Now())
	}
	if l, e := w.Turn(lastTime); len(l) != 0 || e != api.OK {
		t.Errorf("Turn to the last time, twice: %v %d", l, e)
	}
}

// P9.2: a due is told just from its second on: not the one ahead.
func TestTurnSecond(t *testing.T) {
	times := atEdges()
	for i, now := range times {
		for _, at := range times[i%5:] {
			if at <= now {
				continue
			}
			w := mustNew(t, now)
			d := api.Due{At: at, Num: 3}
			mustPut(t, w, d)
			if l := mustTurn(t, w, at-1); len(l) != 0 || w.Now() != at-1 || w.Len() != 1 {
				t.Fatalf("from %d: Turn ahead of %d: %v, %d left", now, at, l, w.Len())
			}
			if l := mustTurn(t, w, at); !slices.Equal(l, []api.Due{d}) || w.Now() != at || w.Len() != 0 {
				t.Fatalf("from %d: Turn to %d: %v, %d left", now, at, l, w.Len())
			}
			if l := mustTurn(t, w, lastTime); len(l) != 0 {
				t.Fatalf("from %d: Turn behind %d: %v", now, at, l)
			}
		}
	}
}

// P9.2: from each edge to each other one, with dues at all sorts of edges between and behind: what is told, and where the rest stands.
func TestTurnEdges(t *testing.T) {
	times := atEdges()
	for i, from := range times {
		for j := i; j < len(times); j += 8 {
			w, m := mustNew(t, from), &model{now: from}
			to := times[j]
			for n := range int64(most) {
				at := times[(int64(j)+(n-32)*(n%4+1)+int64(len(times)))%int64(len(times))]
				d := api.Due{At: at, Num: uint64(n * 37 % most)}
				if e, want := w.Put(d), m.put(d); e != want {
					t.Fatalf("Put(%v) at %d: %d, want %d", d, from, e, want)
				}
			}
			got := mustTurn(t, w, to)
			if want, _ := m.turn(to); !slices.Equal(got, want) {
				t.Fatalf("from %d to %d: %v, want %v", from, to, got, want)
			}
			same(t, w, m)
		}
	}
}

// P9.2, P9.3: dues of one time are told by Num, all numbers there are, however they were put.
func TestOrder(t *testing.T) {
	for _, at := range []int64{1, 64, 1 << 12, 1 << 20, 1 << 24, lastTime} {
		w := mustNew(t, 0)
		mustPut(t, w, api.Due{At: at, Num: 1 << 63}, api.Due{At: at, Num: 3}, api.Due{At: at, Num: math.MaxUint64}, api.Due{At: at, Num: 0}, api.Due{At: at, Num: 1<<63 - 1})
		want := []api.Due{{At: at, Num: 0}, {At: at, Num: 3}, {At: at, Num: 1<<63 - 1}, {At: at, Num: 1 << 63}, {At: at, Num: math.MaxUint64}}
		if l := w.All(); !slices.Equal(l, want) {
			t.Errorf("All: %v", l)
		}
		if d, ok := w.First(); d != want[0] || !ok {
			t.Errorf("First: %v %v", d, ok)
		}
		if l := mustTurn(t, w, at); !slices.Equal(l, want) {
			t.Errorf("Turn: %v", l)
		}
	}
}

// P9.3: At goes ahead of Num, in one slot and over all levels.
func TestOrderTimes(t *testing.T) {
	w := mustNew(t, 5)
	want := []api.Due{{At: 6, Num: 90}, {At: 63, Num: 80}, {At: 64, Num: 70}, {At: 65, Num: 60}, {At: 128, Num: 50}, {At: 4095, Num: 40}, {At: 4096, Num: 30}, {At: 1 << 18, Num: 20}, {At: 1<<24 - 1, Num: 10}, {At: 1 << 24, Num: 9}, {At: 1<<24 + 1, Num: 8}, {At: 1 << 25, Num: 7}, {At: lastTime, Num: 6}}
	for i := range want {
		mustPut(t, w, want[(i*5+3)%len(want)])
	}
	for len(want) > 0 {
		if d, ok := w.First(); !slices.Equal(w.All(), want) || w.Len() != len(want) || d != want[0] || !ok {
			t.Fatalf("First %v %v, All %v, want %v", d, ok, w.All(), want)
		}
		if e := w.Cut(want[0].Num); e != api.OK {
			t.Fatalf("Cut: %d", e)
		}
		want = want[1:]
	}
	if d, ok := w.First(); d != (api.Due{}) || ok || w.Len() != 0 || len(w.All()) != 0 {
		t.Errorf("of an empty wheel: First %v %v, All %v", d, ok, w.All())
	}
}

// P9.4: places by name, at the ends of levels and slots.
func TestPlaceNamed(t *testing.T) {
	for _, c := range []struct {
		now, at     int64
		level, slot int
	}{
		{0, 1, 0, 1}, {0, 63, 0, 63}, {0, 64, 1, 1}, {0, 127, 1, 1}, {0, 128, 1, 2}, {0, 4095, 1, 63},
		{0, 4096, 2, 1}, {0, 1<<18 - 1, 2, 63}, {0, 1 << 18, 3, 1}, {0, 1<<24 - 1, 3, 63}, {0, 1 << 24, 4, 0}, {0, 1<<25 - 1, 4, 0}, {0, lastTime, 4, 0},
		{63, 64, 1, 1}, {62, 63, 0, 63}, {64, 65, 0, 1}, {64, 127, 0, 63}, {64, 128, 1, 2}, {127, 128, 1, 2},
		{4095, 4096, 2, 1}, {4096, 4097, 0, 1}, {8191, 8192, 2, 2}, {4096, 8191, 1, 63},
		{1<<18 - 1, 1 << 18, 3, 1}, {1 << 18, 1<<19 - 1, 2, 63}, {1<<24 - 1, 1 << 24, 4, 0}, {1 << 24, 1<<25 - 1, 3, 63}, {1<<24 + 1, 1<<24 + 2, 0, 2},
		{100, 101, 0, 37}, {100, 200, 1, 3}, {100, 5000, 2, 1}, {192, 200, 0, 8},
		{lastTime - 1, lastTime, 0, 63}, {lastTime - 64, lastTime, 1, lastTime >> 6 & 63},
	} {
		w := mustNew(t, c.now)
		mustPut(t, w, api.Due{At: c.at, Num: 9})
		if level, slot, ok := w.Place(9); level != c.level || slot != c.slot || !ok {
			t.Errorf("Place of %d at %d: %d %d %v, want %d %d", c.at, c.now, level, slot, ok, c.level, c.slot)
		}
	}
}

// P9.4: a place hangs on Now and At alone: not on when, and where, the due was put.
func TestPlaceTurned(t *testing.T) {
	for _, at := range []int64{1<<24 + 1<<18 + 1<<12 + 1<<6 + 1, 3<<30 + 12345678, lastTime} {
		w, m := mustNew(t, 0), &model{}
		d := api.Due{At: at, Num: 4}
		mustPut(t, w, d)
		m.put(d)
		for b := 37; b >= 0; b-- {
			for _, now := range []int64{at>>b<<b - 1, at >> b << b, at - 1<<b} {
				if now < m.now || now >= at {
					continue
				}
				l := mustTurn(t, w, now)
				if want, _ := m.turn(now); !slices.Equal(l, want) {
					t.Fatalf("Turn(%d): %v", now, l)
				}
				same(t, w, m)
				fresh := mustNew(t, now)
				mustPut(t, fresh, d)
				a, b, _ := fresh.Place(4)
				if x, y, ok := w.Place(4); x != a || y != b || !ok {
					t.Fatalf("Place of %d at %d: %d %d %v, but put then %d %d", at, now, x, y, ok, a, b)
				}
			}
		}
	}
}

// someTime is a time behind now, as far as one of all sorts of powers; at times one at an edge.
func someTime(r *rand.Rand, now int64) int64 {
	far := r.Int63n(int64(2) << r.Intn(38))
	t := now + far
	if r.Intn(3) == 0 {
		b := r.Intn(26)
		t = t>>b<<b - int64(r.Intn(2))
	}
	return t
}

// P9.1 to P9.5: whatever is done, one behind the other, the wheel tells what the model tells.
func TestWalks(t *testing.T) {
	r := rand.New(rand.NewSource(9))
	for range 400 {
		now := someTime(r, 0) % (lastTime + 1)
		if now < 0 {
			now = 0
		}
		w, m := mustNew(t, now), &model{now: now}
		sparing := 3 + r.Intn(8)
		for range 200 {
			switch n := r.Intn(12); {
			case n < sparing:
				d := api.Due{At: someTime(r, m.now), Num: uint64(r.Intn(100))}
				if e, want := w.Put(d), m.put(d); e != want {
					t.Fatalf("Put(%v) at %d: %d, want %d", d, m.now, e, want)
				}
			case n%2 == 0:
				num := uint64(r.Intn(100))
				if e, want := w.Cut(num), m.cut(num); e != want {
					t.Fatalf("Cut(%d): %d, want %d", num, e, want)
				}
			default:
				to := m.now + r.Int63n(int64(1)<<r.Intn(30)) - int64(r.Intn(2))
				got, e := w.Turn(to)
				if want, err := m.turn(to); e != err || !slices.Equal(got, want) {
					t.Fatalf("Turn(%d): %v %d, want %v %d", to, got, e, want, err)
				}
			}
			same(t, w, m)
		}
	}
}

// someDues are as many dues behind now as there may be at most.
func someDues(r *rand.Rand, now int64) []api.Due {
	var l []api.Due
	for num := range uint64(most) {
		l = append(l, api.Due{At: min(max(someTime(r, now), now+1), lastTime), Num: num})
	}
	return l
}

// P9.5: turned in steps, however long, a wheel tells together what it tells turned at once: each due once, none ahead of its time, none too late.
func TestSteps(t *testing.T) {
	r := rand.New(rand.NewSource(5))
	for range 300 {
		from := r.Int63n(int64(1) << (1 + r.Intn(37)))
		l := someDues(r, from)
		once, steps := mustNew(t, from), mustNew(t, from)
		mustPut(t, once, l...)
		mustPut(t, steps, l...)
		to := min(someTime(r, from), lastTime)
		if to < from {
			to = from
		}
		want := mustTurn(t, once, to)
		var got []api.Due
		for at := from; at < to; {
			next := min(at+1+r.Int63n(1+(to-at)>>r.Intn(10)), to)
			part := mustTurn(t, steps, next)
			for _, d := range part {
				if d.At <= at || d.At > next {
					t.Fatalf("Turn from %d to %d: %v", at, next, d)
				}
			}
			got = append(got, part...)
			at = next
		}
		if !slices.Equal(got, want) || !slices.Equal(once.All(), steps.All()) || once.Now() != steps.Now() {
			t.Fatalf("from %d to %d: in steps %v, at once %v", from, to, got, want)
		}
		rest := append(want, mustTurn(t, once, lastTime)...)
		nums := map[uint64]int{}
		for _, d := range rest {
			nums[d.Num]++
		}
		if len(rest) != len(l) || len(nums) != len(l) || once.Len() != 0 {
			t.Fatalf("of %d dues %d were told", len(l), len(rest))
		}
	}
}

// P9.5: second by second, over the ends of levels.
func TestSeconds(t *testing.T) {
	for _, edge := range []int64{64, 4096, 1 << 18, 1 << 24, 1 << 30, 1 << 37, lastTime - 100} {
		from := max(edge-100, 0)
		w, m := mustNew(t, from), &model{now: from}
		for n := range int64(most) {
			d := api.Due{At: from + 1 + n*n%199, Num: uint64(n)}
			if e, want := w.Put(d), m.put(d); e != want {
				t.Fatalf("Put(%v): %d, want %d", d, e, want)
			}
		}
		for now := from; now <= from+199 && now <= lastTime; now++ {
			got := mustTurn(t, w, now)
			if want, _ := m.turn(now); !slices.Equal(got, want) {
				t.Fatalf("Turn(%d): %v, want %v", now, got, want)
			}
			same(t, w, m)
		}
	}
}

// P9.5: in whatever order dues are put, and whatever was put and cut between, it comes to the same.
func TestPutOrder(t *testing.T) {
	r := rand.New(rand.NewSource(7))
	for range 200 {
		now := r.Int63n(int64(1) << (1 + r.Intn(37)))
		l := someDues(r, now)[:1+r.Intn(most-1)]
		a, b := mustNew(t, now), mustNew(t, now)
		mustPut(t, a, l...)
		for _, i := range r.Perm(len(l)) {
			if r.Intn(2) == 0 {
				mustPut(t, b, api.Due{At: l[r.Intn(len(l))].At, Num: 1000})
				b.Cut(1000)
			}
			mustPut(t, b, l[i])
		}
		for {
			m := &model{now: a.Now(), dues: a.All()}
			same(t, a, m)
			same(t, b, m)
			first, ok := a.First()
			if !ok {
				break
			}
			if x, y := mustTurn(t, a, first.At), mustTurn(t, b, first.At); !slices.Equal(x, y) {
				t.Fatalf("Turn(%d): %v and %v", first.At, x, y)
			}
		}
	}
}

// spoil writes over a list, the room behind its end, too.
func spoil(l []api.Due) {
	l = l[:cap(l)]
	for i := range l {
		l[i] = api.Due{At: -1, Num: 77}
	}
}

// R3: what is answered is new memory, the room behind its end, too: what is done to it changes no wheel, and no other answer. That of one slot alone, of the list alone, and of many.
func TestAnswered(t *testing.T) {
	for _, dues := range [][]api.Due{
		{{At: 1, Num: 1}},
		{{At: 1, Num: 1}, {At: 1, Num: 2}, {At: 1, Num: 3}},
		{{At: 64, Num: 2}, {At: 65, Num: 3}, {At: 66, Num: 4}},
		{{At: 1 << 24, Num: 5}, {At: 1<<24 + 1, Num: 6}, {At: 1 << 25, Num: 7}},
		{{At: 1, Num: 1}, {At: 64, Num: 2}, {At: 65, Num: 3}, {At: 66, Num: 4}, {At: 1 << 24, Num: 5}, {At: 1 << 25, Num: 6}},
	} {
		build := func() *wheel.Wheel {
			w := mustNew(t, 0)
			mustPut(t, w, dues...)
			return w
		}
		w := build()
		all, again := w.All(), w.All()
		spoil(all)
		if !slices.Equal(again, dues) {
			t.Errorf("All shares its answers: %v, want %v", again, dues)
		}
		same(t, w, &model{dues: dues})
		for _, to := range []int64{1, 64, 65, 1 << 24, 1 << 25} {
			w, m := build(), &model{dues: dues}
			told := mustTurn(t, w, to)
			spoil(told)
			m.turn(to)
			same(t, w, m)
		}
	}
}

// R3: what was told stays, whatever is done to the wheel behind that.
func TestToldStays(t *testing.T) {
	w := mustNew(t, 0)
	for n := range uint64(20) {
		mustPut(t, w, api.Due{At: 64 + int64(n), Num: n})
	}
	all := w.All()
	want := slices.Clone(all)
	told := mustTurn(t, w, 70)
	for n := range uint64(20) {
		mustPut(t, w, api.Due{At: 71 + int64(n), Num: 100 + n})
		w.Cut(10 + n)
	}
	mustTurn(t, w, 80)
	if !slices.Equal(all, want) || !slices.Equal(told, want[:7]) {
		t.Errorf("what was told changed: %v, %v", all, told)
	}
}

// R5: wheels don't know of each other.
func TestApart(t *testing.T) {
	a, b := mustNew(t, 100), mustNew(t, 100)
	mustPut(t, a, api.Due{At: 101, Num: 1}, api.Due{At: 1 << 30, Num: 2})
	same(t, b, &model{now: 100})
	mustPut(t, b, api.Due{At: 101, Num: 1})
	mustTurn(t, a, 5000)
	if e := a.Cut(2); e != api.OK {
		t.Errorf("Cut: %d", e)
	}
	same(t, b, &model{now: 100, dues: []api.Due{{At: 101, Num: 1}}})
	same(t, a, &model{now: 5000})
}

// The chapter's examples, one behind the other.
func TestExamples(t *testing.T) {
	w, m := mustNew(t, 100), &model{now: 100}
	for _, c := range []struct {
		d    api.Due
		want api.Errno
	}{
		{api.Due{At: 101, Num: 7}, api.OK}, {api.Due{At: 200, Num: 8}, api.OK}, {api.Due{At: 5000, Num: 9}, api.OK},
		{api.Due{At: 1 << 40, Num: 1}, api.ErrArg}, {api.Due{At: 100, Num: 5}, api.ErrArg}, {api.Due{At: 300, Num: 7}, api.ErrThere},
	} {
		if e, want := w.Put(c.d), m.put(c.d); e != c.want || want != c.want {
			t.Errorf("Put(%v): %d, want %d", c.d, e, c.want)
		}
		same(t, w, m)
	}
	for _, c := range []struct {
		now  int64
		want []api.Due
	}{{191, []api.Due{{At: 101, Num: 7}}}, {192, nil}, {6000, []api.Due{{At: 200, Num: 8}, {At: 5000, Num: 9}}}} {
		got := mustTurn(t, w, c.now)
		if want, _ := m.turn(c.now); !slices.Equal(got, want) || !slices.Equal(got, c.want) {
			t.Errorf("Turn(%d): %v, want %v", c.now, got, c.want)
		}
		same(t, w, m)
		if _, e := w.Turn(c.now - 1); e != api.ErrArg {
			t.Errorf("Turn back from %d: %d", c.now, e)
		}
	}
}
