package tape_test

import (
	"bytes"
	"math"
	"math/big"
	"math/rand"
	"slices"
	"testing"

	"curfew/api"
	"curfew/tape"
)

// numbers are those about each power of 2, and some of each length; the same in every run.
func numbers() []uint64 {
	l := []uint64{0, 1, 2, 3, 5, 300, math.MaxUint64}
	for i := range 64 {
		n := uint64(1) << i
		l = append(l, n-1, n, n+1, ^n, ^n+1)
	}
	r := rand.New(rand.NewSource(2))
	for i := range 400 {
		l = append(l, r.Uint64()>>(i%64))
	}
	return l
}

// ints are numbers that may be below 0: about each power of 2, and some of each length.
func ints() []int64 {
	l := []int64{math.MinInt64, math.MinInt64 + 1, math.MaxInt64 - 1, math.MaxInt64}
	for _, n := range numbers() {
		l = append(l, int64(n), -int64(n))
	}
	return l
}

// put is a number's short bytes by the words of the chapter, by quotients alone.
func put(n uint64) []byte {
	var l []byte
	for n >= 128 {
		l = append(l, byte(n%128)+128)
		n /= 128
	}
	return append(l, byte(n))
}

// read is what stands at the beginning of b by the words of the chapter: the number, how many bytes it has, and what is wrong.
func read(b []byte) (uint64, int, api.Errno) {
	if len(b) >= 10 && b[9] > 1 && count(b[:9]) == 9 {
		return 0, 0, api.ErrTape
	}
	size := count(b) + 1
	if size > len(b) {
		return 0, 0, api.ErrShort
	}
	sum := new(big.Int)
	for i := size - 1; i >= 0; i-- {
		sum.Mul(sum, big.NewInt(128))
		sum.Add(sum, big.NewInt(int64(b[i]%128)))
	}
	if size > 1 && b[size-1] == 0 || !sum.IsUint64() {
		return 0, 0, api.ErrTape
	}
	return sum.Uint64(), size, api.OK
}

// count is how many bytes at the beginning say that one more comes.
func count(b []byte) int {
	n := 0
	for n < len(b) && b[n] >= 128 {
		n++
	}
	return n
}

// turn is a number turned, in numbers without an end.
func turn(n int64) *big.Int {
	x := big.NewInt(n)
	if n < 0 {
		x.Neg(x)
		x.Add(x, x)
		return x.Sub(x, big.NewInt(1))
	}
	return x.Add(x, x)
}

// strips are bytes of all sorts: each row of up to five out of those at the edges, and those about the greatest length of a number.
func strips() [][]byte {
	letters := []byte{0, 1, 2, 127, 128, 129, 255}
	l := [][]byte{nil}
	for from, n := 0, 0; n < 5; n++ {
		to := len(l)
		for ; from < to; from++ {
			for _, x := range letters {
				l = append(l, append(slices.Clone(l[from]), x))
			}
		}
	}
	for ahead := 5; ahead <= 12; ahead++ {
		for _, x := range []byte{128, 129, 255} {
			head := bytes.Repeat([]byte{x}, ahead)
			l = append(l, head)
			for last := range 256 {
				l = append(l, append(slices.Clone(head), byte(last)), append(slices.Clone(head), byte(last), 0), append(slices.Clone(head), byte(last), 128, 5))
			}
		}
	}
	return l
}

// wrong are tapes that may not be.
func wrong() []api.Tape {
	great := make([]byte, api.MaxTape+1)
	var l []api.Tape
	for _, err := range []api.Errno{api.OK, api.ErrShort, api.ErrTape, api.ErrLong, -1} {
		l = append(l,
			api.Tape{At: 1, Err: err}, api.Tape{At: -1, Err: err}, api.Tape{At: math.MinInt, Err: err}, api.Tape{At: math.MaxInt, Err: err},
			api.Tape{Bytes: []byte{1, 1}, At: 3, Err: err}, api.Tape{Bytes: []byte{1, 1}, At: -1, Err: err}, api.Tape{Bytes: []byte{1, 1, 1, 1}[:2], At: 3, Err: err},
			api.Tape{Bytes: great, Err: err}, api.Tape{Bytes: great, At: len(great), Err: err}, api.Tape{Bytes: great, At: len(great) + 1, Err: err})
	}
	return l
}

// broken are tapes that may be, with an error.
func broken() []api.Tape {
	var l []api.Tape
	for _, err := range []api.Errno{api.ErrNil, api.ErrArg, api.ErrLong, api.ErrShort, api.ErrTape, -1, math.MaxInt} {
		l = append(l, api.Tape{Err: err}, api.Tape{Bytes: []byte{1, 1}, Err: err}, api.Tape{Bytes: []byte{1, 1}, At: 1, Err: err}, api.Tape{Bytes: []byte{1, 1}, At: 2, Err: err}, api.Tape{Bytes: make([]byte, api.MaxTape), Err: err})
	}
	return l
}

// same tells whether two tapes are one, of which nil and empty bytes are.
func same(a, b api.Tape) bool {
	return bytes.Equal(a.Bytes, b.Bytes) && a.At == b.At && a.Err == b.Err
}

// takes are all calls that take, of a most that lets all go by; each tells whether it told something.
func takes() map[string]func(t api.Tape) (api.Tape, bool) {
	return map[string]func(t api.Tape) (api.Tape, bool){
		"Take":      func(t api.Tape) (api.Tape, bool) { u, x := tape.Take(t); return u, x != 0 },
		"Most":      func(t api.Tape) (api.Tape, bool) { u, x := tape.Most(t, math.MaxUint64); return u, x != 0 },
		"TakeInt":   func(t api.Tape) (api.Tape, bool) { u, x := tape.TakeInt(t); return u, x != 0 },
		"TakeFlag":  func(t api.Tape) (api.Tape, bool) { u, x := tape.TakeFlag(t); return u, x },
		"TakeBytes": func(t api.Tape) (api.Tape, bool) { u, x := tape.TakeBytes(t, math.MaxInt); return u, len(x) != 0 },
	}
}

// P2.1: a number's short bytes, behind whatever stands there.
func TestPut(t *testing.T) {
	for _, c := range []struct {
		n    uint64
		want []byte
	}{
		{0, []byte{0}},
		{1, []byte{1}},
		{127, []byte{0x7f}},
		{128, []byte{0x80, 1}},
		{300, []byte{0xac, 2}},
		{16383, []byte{0xff, 0x7f}},
		{16384, []byte{0x80, 0x80, 1}},
		{1<<63 - 1, []byte{0xff, 0xff, 0xff, 0xff, 0xff, 0xff, 0xff, 0xff, 0x7f}},
		{1 << 63, []byte{0x80, 0x80, 0x80, 0x80, 0x80, 0x80, 0x80, 0x80, 0x80, 1}},
		{math.MaxUint64, []byte{0xff, 0xff, 0xff, 0xff, 0xff, 0xff, 0xff, 0xff, 0xff, 1}},
	} {
		if b := tape.Put(nil, c.n); !bytes.Equal(b, c.want) {
			t.Errorf("Put(%d): %x, want %x", c.n, b, c.want)
		}
	}
	for _, n := range numbers() {
		if b := tape.Put(nil, n); !bytes.Equal(b, put(n)) {
			t.Errorf("Put(%d): %x, want %x", n, b, put(n))
		}
		if b, want := tape.Put([]byte{0x80, 0}, n), append([]byte{0x80, 0}, put(n)...); !bytes.Equal(b, want) {
			t.Errorf("Put(8000, %d): %x, want %x", n, b, want)
		}
	}
}

// P2.1: none, one and many numbers, in their order.
func TestPutMany(t *testing.T) {
	for _, b := range [][]byte{nil, {}, {7}, {0xff, 0x80}} {
		want := slices.Clone(b)
		if x := tape.Put(b); !bytes.Equal(x, want) {
			t.Errorf("Put(%x) of none: %x", b, x)
		}
		l := numbers()
		for i, n := range l {
			want = append(want, put(n)...)
			if x := tape.Put(b, l[:i+1]...); !bytes.Equal(x, want) {
				t.Fatalf("Put(%x) of %d numbers: %x, want %x", b, i+1, x, want)
			}
		}
	}
}

// P2.1: one that may be below 0 is put turned.
func TestPutInt(t *testing.T) {
	for _, c := range []struct {
		n    int64
		want []byte
	}{
		{0, []byte{0}}, {-1, []byte{1}}, {1, []byte{2}}, {-3, []byte{5}}, {63, []byte{126}}, {-64, []byte{127}}, {64, []byte{0x80, 1}},
		{math.MinInt64, put(math.MaxUint64)}, {math.MaxInt64, put(math.MaxUint64 - 1)},
	} {
		if b := tape.PutInt(nil, c.n); !bytes.Equal(b, c.want) {
			t.Errorf("PutInt(%d): %x, want %x", c.n, b, c.want)
		}
	}
	for _, n := range ints() {
		want := append([]byte{9, 0x80}, put(turn(n).Uint64())...)
		if b := tape.PutInt([]byte{9, 0x80}, n); !bytes.Equal(b, want) {
			t.Errorf("PutInt(0980, %d): %x, want %x", n, b, want)
		}
	}
}

// P2.1: flags.
func TestPutFlag(t *testing.T) {
	for _, b := range [][]byte{nil, {}, {3}, {0x80, 0xff}} {
		if x := tape.PutFlag(b, true); !bytes.Equal(x, append(slices.Clone(b), 1)) {
			t.Errorf("PutFlag(%x, true): %x", b, x)
		}
		if x := tape.PutFlag(b, false); !bytes.Equal(x, append(slices.Clone(b), 0)) {
			t.Errorf("PutFlag(%x, false): %x", b, x)
		}
	}
}

// P2.1: bytes, with their count ahead of them; what is put is of any length, that of no tape, too.
func TestPutBytes(t *testing.T) {
	long := bytes.Repeat([]byte{5, 0x80, 0}, 7000)
	for _, n := range []int{0, 1, 2, 127, 128, 129, 16383, 16384, 16385, 21000} {
		for _, b := range [][]byte{nil, {}, {9}, {0x80, 0xff}} {
			want := append(append(slices.Clone(b), put(uint64(n))...), long[:n]...)
			if x := tape.PutBytes(b, long[:n]); !bytes.Equal(x, want) {
				t.Errorf("PutBytes(%x, %d bytes): %d bytes, want %d", b, n, len(x), len(want))
			}
		}
	}
	if x := tape.PutBytes(long, nil); !bytes.Equal(x, append(slices.Clone(long), 0)) {
		t.Errorf("PutBytes of none behind %d: %d bytes", len(long), len(x))
	}
}

// P2.2: Size.
func TestSize(t *testing.T) {
	for _, n := range numbers() {
		if s := tape.Size(n); s != len(put(n)) {
			t.Errorf("Size(%d): %d, want %d", n, s, len(put(n)))
		}
	}
	for size := 1; size <= 9; size++ {
		top := uint64(1)<<(7*size) - 1
		if a, b := tape.Size(top), tape.Size(top+1); a != size || b != size+1 {
			t.Errorf("Size(%d): %d; of the next one: %d", top, a, b)
		}
	}
	if a, b := tape.Size(0), tape.Size(math.MaxUint64); a != 1 || b != 10 {
		t.Errorf("Size of the least one: %d; of the greatest one: %d", a, b)
	}
}

// P2.2: Turn and Back.
func TestTurn(t *testing.T) {
	for i, n := range []int64{0, -1, 1, -2, 2, -3, 3} {
		if x := tape.Turn(n); x != uint64(i) {
			t.Errorf("Turn(%d): %d, want %d", n, x, i)
		}
		if x := tape.Back(uint64(i)); x != n {
			t.Errorf("Back(%d): %d, want %d", i, x, n)
		}
	}
	for _, n := range ints() {
		x := tape.Turn(n)
		if turn(n).Cmp(new(big.Int).SetUint64(x)) != 0 {
			t.Errorf("Turn(%d): %d, want %d", n, x, turn(n))
		}
		if y := tape.Back(x); y != n {
			t.Errorf("Back(%d): %d, want %d", x, y, n)
		}
	}
	for _, n := range numbers() {
		if x := turn(tape.Back(n)); x.Cmp(new(big.Int).SetUint64(n)) != 0 {
			t.Errorf("Back(%d): %d, that is %d turned", n, tape.Back(n), x)
		}
	}
}

// P2.3: Of, up to the limit and by one more.
func TestOf(t *testing.T) {
	long := bytes.Repeat([]byte{1, 2, 0x80}, 7000)
	for _, n := range []int{0, 1, 2, 3, 16383, 16384} {
		if x := tape.Of(long[:n]); !same(x, api.Tape{Bytes: long[:n]}) || tape.Check(x) != api.OK {
			t.Errorf("Of %d bytes: %d bytes, At %d, %d", n, len(x.Bytes), x.At, x.Err)
		}
	}
	for _, n := range []int{16385, 16386, 21000} {
		if x := tape.Of(long[:n]); !same(x, api.Tape{Err: api.ErrLong}) || tape.Check(x) != api.ErrLong {
			t.Errorf("Of %d bytes: %d bytes, At %d, %d", n, len(x.Bytes), x.At, x.Err)
		}
	}
	if x := tape.Of(nil); !same(x, api.Tape{}) {
		t.Errorf("Of nil: %v", x)
	}
}

// P2.3: Check, of tapes that may be, and that may not.
func TestCheck(t *testing.T) {
	for _, n := range []int{0, 1, 2, 16383, 16384} {
		for _, at := range []int{0, n / 2, n} {
			if err := tape.Check(api.Tape{Bytes: make([]byte, n), At: at}); err != api.OK {
				t.Errorf("Check of %d bytes, At %d: %d", n, at, err)
			}
		}
	}
	for _, x := range broken() {
		if err := tape.Check(x); err != x.Err {
			t.Errorf("Check of %d bytes, At %d, with %d: %d", len(x.Bytes), x.At, x.Err, err)
		}
	}
	for _, x := range wrong() {
		if err := tape.Check(x); err != api.ErrTape {
			t.Errorf("Check of %d bytes, At %d, with %d: %d", len(x.Bytes), x.At, x.Err, err)
		}
	}
}

// P2.4: of a tape with an error nothing is taken, and it stays; of one that may not be neither, and its Err is ErrTape.
func TestTakeNothing(t *testing.T) {
	for name, f := range takes() {
		for _, x := range broken() {
			if u, is := f(x); !same(u, x) || is {
				t.Errorf("%s of %d bytes, At %d, with %d: %d bytes, At %d, %d, %v", name, len(x.Bytes), x.At, x.Err, len(u.Bytes), u.At, u.Err, is)
			}
		}
		for _, x := range wrong() {
			want := x
			want.Err = api.ErrTape
			if u, is := f(x); !same(u, want) || is {
				t.Errorf("%s of %d bytes, At %d, with %d: %d bytes, At %d, %d, %v", name, len(x.Bytes), x.At, x.Err, len(u.Bytes), u.At, u.Err, is)
			}
		}
	}
	for _, x := range append(broken(), wrong()...) {
		want := x
		want.Err = tape.Check(x)
		u, n := tape.Most(x, 0)
		v, b := tape.TakeBytes(x, -1)
		if !same(u, want) || n != 0 || !same(v, want) || len(b) != 0 {
			t.Errorf("Most and TakeBytes of a tape with %d: %d %d, %d %v", x.Err, u.Err, n, v.Err, b)
		}
	}
}

// P2.4: Take, of all sorts of bytes, from their beginning and behind others.
func TestTake(t *testing.T) {
	for _, b := range strips() {
		n, size, err := read(b)
		for _, ahead := range [][]byte{nil, {5}, {0x80, 0x80, 0xff}} {
			x := api.Tape{Bytes: slices.Concat(ahead, b), At: len(ahead)}
			want := api.Tape{Bytes: x.Bytes, At: x.At + size, Err: err}
			if u, m := tape.Take(x); !same(u, want) || m != n {
				t.Fatalf("Take of %x behind %x: %d, At %d, %d; want %d, At %d, %d", b, ahead, m, u.At, u.Err, n, want.At, err)
			}
			want.Err = err
			if u, m := tape.TakeInt(x); !same(u, want) || turn(m).Cmp(new(big.Int).SetUint64(n)) != 0 {
				t.Fatalf("TakeInt of %x behind %x: %d, At %d, %d; want %d turned, At %d, %d", b, ahead, m, u.At, u.Err, n, want.At, err)
			}
		}
	}
}

// P2.4: what is wrong with a number, and which of it goes ahead.
func TestTakeWrong(t *testing.T) {
	nine := bytes.Repeat([]byte{0x80}, 9)
	for _, c := range []struct {
		b    []byte
		want api.Errno
	}{
		{nil, api.ErrShort},
		{[]byte{0x80}, api.ErrShort},
		{[]byte{0xff, 0xff}, api.ErrShort},
		{nine, api.ErrShort},
		{[]byte{0x80, 0}, api.ErrTape},
		{[]byte{0xff, 0}, api.ErrTape},
		{[]byte{0x80, 0x80, 0}, api.ErrTape},
		{append(slices.Clone(nine), 0), api.ErrTape},
		{append(slices.Clone(nine), 1), api.OK},
		{append(slices.Clone(nine), 2), api.ErrTape},
		{append(slices.Clone(nine), 0x7f), api.ErrTape},
		{append(slices.Clone(nine), 0x80), api.ErrTape},
		{append(slices.Clone(nine), 0x81), api.ErrTape},
		{append(slices.Clone(nine), 0x80, 0), api.ErrTape},
		{append(slices.Clone(nine), 0x81, 1), api.ErrTape},
		{append(slices.Clone(nine), 0xff, 0xff, 0xff), api.ErrTape},
	} {
		if u, n := tape.Take(tape.Of(c.b)); u.Err != c.want || c.want != api.OK && (n != 0 || u.At != 0) {
			t.Errorf("Take of %x: %d, At %d, %d, want %d", c.b, n, u.At, u.Err, c.want)
		}
		for _, most := range []int{-1, 0, math.MaxInt} {
			if u, b := tape.TakeBytes(tape.Of(c.b), most); c.want != api.OK && (u.Err != c.want || len(b) != 0 || u.At != 0) {
				t.Errorf("TakeBytes of %x: %v, At %d, %d, want %d", c.b, b, u.At, u.Err, c.want)
			}
		}
		if u, n := tape.Most(tape.Of(c.b), 0); c.want != api.OK && (u.Err != c.want || n != 0 || u.At != 0) {
			t.Errorf("Most of %x: %d, At %d, %d, want %d", c.b, n, u.At, u.Err, c.want)
		}
	}
}

// P2.4: Most, at its edge.
func TestMost(t *testing.T) {
	l := numbers()
	for i, n := range l {
		x := api.Tape{Bytes: slices.Concat([]byte{7}, put(n), []byte{7}), At: 1}
		for _, most := range []uint64{0, n - 1, n, n + 1, n / 2, l[(i+1)%len(l)], l[(i+7)%len(l)], math.MaxInt64, math.MaxUint64} {
			u, m := tape.Most(x, most)
			want, told := api.Tape{Bytes: x.Bytes, At: 1 + len(put(n))}, n
			if n > most {
				want, told = api.Tape{Bytes: x.Bytes, At: 1, Err: api.ErrLong}, 0
			}
			if !same(u, want) || m != told {
				t.Errorf("Most(%d, %d): %d, At %d, %d", n, most, m, u.At, u.Err)
			}
		}
	}
}

// P2.4: a flag is one byte, that is 0 or 1, and no number.
func TestTakeFlag(t *testing.T) {
	for x := range 256 {
		for _, ahead := range [][]byte{nil, {9}} {
			for _, behind := range [][]byte{nil, {0}, {1}, {0x80, 2}} {
				v := api.Tape{Bytes: slices.Concat(ahead, []byte{byte(x)}, behind), At: len(ahead)}
				u, is := tape.TakeFlag(v)
				want := api.Tape{Bytes: v.Bytes, At: v.At + 1}
				if x > 1 {
					want.At, want.Err = v.At, api.ErrTape
				}
				if !same(u, want) || is != (x == 1) {
					t.Errorf("TakeFlag of %x At %d: %v, At %d, %d", v.Bytes, v.At, is, u.At, u.Err)
				}
			}
		}
	}
	for _, b := range [][]byte{nil, {1}, {0, 1}} {
		v := api.Tape{Bytes: b, At: len(b)}
		if u, is := tape.TakeFlag(v); is || u.Err != api.ErrShort || u.At != len(b) {
			t.Errorf("TakeFlag at the end of %x: %v, At %d, %d", b, is, u.At, u.Err)
		}
	}
}

// P2.4: TakeBytes, of counts about how many there are and may be.
func TestTakeBytes(t *testing.T) {
	long := bytes.Repeat([]byte{5, 0x80, 0, 1}, 3000)
	for _, there := range []int{0, 1, 2, 3, 127, 128, 129, 300, 12000} {
		for _, n := range []int{0, 1, 2, 3, 4, 126, 127, 128, 129, 130, 299, 300, 301, 11999, 12000, 12001, 1 << 31, 1 << 40, math.MaxInt} {
			for _, most := range []int{math.MinInt, -1, 0, 1, n - 1, n, min(n, math.MaxInt-1) + 1, there, math.MaxInt} {
				x := api.Tape{Bytes: slices.Concat([]byte{0x80}, put(uint64(n)), long[:there]), At: 1}
				want, told := api.Tape{Bytes: x.Bytes, At: 1}, []byte(nil)
				switch {
				case n > most:
					want.Err = api.ErrLong
				case n > there:
					want.Err = api.ErrShort
				default:
					want.At, told = 1+len(put(uint64(n)))+n, long[:n]
				}
				u, b := tape.TakeBytes(x, most)
				if !same(u, want) || !bytes.Equal(b, told) {
					t.Errorf("TakeBytes of count %d, where there are %d, with most %d: %d bytes, At %d, %d; want At %d, %d", n, there, most, len(b), u.At, u.Err, want.At, want.Err)
				}
			}
		}
	}
	for _, n := range []uint64{1 << 63, 1<<63 + 1, math.MaxUint64 - 1, math.MaxUint64} {
		for _, most := range []int{math.MinInt, -1, 0, 5, math.MaxInt} {
			x := tape.Of(append(put(n), long[:20]...))
			if u, b := tape.TakeBytes(x, most); !same(u, api.Tape{Bytes: x.Bytes, Err: api.ErrLong}) || len(b) != 0 {
				t.Errorf("TakeBytes of count %d with most %d: %v, At %d, %d", n, most, b, u.At, u.Err)
			}
		}
	}
}

// P2.5: Over.
func TestOver(t *testing.T) {
	for _, n := range []int{0, 1, 2, 300, 16383, 16384} {
		for _, at := range []int{0, n / 2, n - 1, n} {
			want := api.OK
			switch {
			case at < 0:
				want = api.ErrTape
			case at < n:
				want = api.ErrLong
			}
			if err := tape.Over(api.Tape{Bytes: make([]byte, n), At: at}); err != want {
				t.Errorf("Over of %d bytes, At %d: %d, want %d", n, at, err, want)
			}
		}
	}
	for _, x := range broken() {
		if err := tape.Over(x); err != x.Err {
			t.Errorf("Over of %d bytes, At %d, with %d: %d", len(x.Bytes), x.At, x.Err, err)
		}
	}
	for _, x := range wrong() {
		if err := tape.Over(x); err != api.ErrTape {
			t.Errorf("Over of %d bytes, At %d, with %d: %d", len(x.Bytes), x.At, x.Err, err)
		}
	}
}

// thing is one that is put, and taken again: its kind, and what it is.
type thing struct {
	kind int
	n    uint64
	b    []byte
}

// putThing puts it behind b.
func putThing(b []byte, x thing) []byte {
	switch x.kind {
	case 0:
		return tape.Put(b, x.n)
	case 1:
		return tape.PutInt(b, int64(x.n))
	case 2:
		return tape.PutFlag(b, x.n%2 == 1)
	}
	return tape.PutBytes(b, x.b)
}

// takeThing takes one of this kind.
func takeThing(t api.Tape, kind int) (api.Tape, thing) {
	x := thing{kind: kind}
	switch kind {
	case 0:
		t, x.n = tape.Take(t)
	case 1:
		u, n := tape.TakeInt(t)
		t, x.n = u, uint64(n)
	case 2:
		u, is := tape.TakeFlag(t)
		t = u
		if is {
			x.n = 1
		}
	default:
		t, x.b = tape.TakeBytes(t, api.MaxTape)
	}
	return t, x
}

// P2.6: what was put is taken, one behind the other, whatever stands ahead of it, and behind it.
func TestRound(t *testing.T) {
	r := rand.New(rand.NewSource(3))
	some := func(n int) []byte {
		b := make([]byte, r.Intn(n))
		r.Read(b)
		return b
	}
	for range 300 {
		ahead, behind := some(20), some(20)
		var l []thing
		b := ahead
		for range r.Intn(30) {
			x := thing{kind: r.Intn(4)}
			switch x.kind {
			case 0, 1:
				x.n = r.Uint64() >> r.Intn(64)
				if r.Intn(2) == 0 {
					x.n = -x.n
				}
			case 2:
				x.n = uint64(r.Intn(2))
			default:
				x.b = some(300)
			}
			l = append(l, x)
			b = putThing(b, x)
		}
		u := api.Tape{Bytes: slices.Concat(b, behind), At: len(ahead)}
		for i, x := range l {
			v, y := takeThing(u, x.kind)
			if v.Err != api.OK || y.n != x.n || !bytes.Equal(y.b, x.b) || !bytes.Equal(v.Bytes, u.Bytes) {
				t.Fatalf("the %dth of %v: %v, At %d, %d", i, l, y, v.At, v.Err)
			}
			u = v
		}
		if u.At != len(b) {
			t.Fatalf("At %d behind all, want %d", u.At, len(b))
		}
	}
}

// P2.6: what was taken without an error, put again, is the bytes that were taken.
func TestOneWay(t *testing.T) {
	taken := 0
	for _, b := range strips() {
		for kind := range 4 {
			u, x := takeThing(tape.Of(b), kind)
			if u.Err != api.OK {
				continue
			}
			taken++
			if again := putThing(nil, x); !bytes.Equal(again, b[:u.At]) {
				t.Fatalf("%v was taken of %x: put again it is %x", x, b[:u.At], again)
			}
		}
	}
	if taken < 10000 {
		t.Errorf("only %d were taken", taken)
	}
}

// P2.6: a number that is nearer to 0 has no more bytes.
func TestNearer(t *testing.T) {
	size := func(n int64) int { return len(tape.PutInt(nil, n)) }
	l := ints()
	for i, a := range l {
		for _, b := range l[i%11:] {
			x, y := new(big.Int).Abs(big.NewInt(a)), new(big.Int).Abs(big.NewInt(b))
			if x.Cmp(y) < 0 && size(a) > size(b) {
				t.Fatalf("%d has %d bytes, %d has %d", a, size(a), b, size(b))
			}
		}
	}
}

// P2.6: an error stays, and so does At, whatever is asked for next.
func TestStays(t *testing.T) {
	for _, x := range []struct {
		b    []byte
		want api.Errno
	}{
		{[]byte{1, 0x80}, api.ErrShort},
		{[]byte{1, 0x80, 0, 1, 1}, api.ErrTape},
		{[]byte{1}, api.ErrShort},
	} {
		u, n := tape.Take(tape.Of(x.b))
		if n != 1 || u.Err != api.OK {
			t.Fatalf("Take of %x: %d, %d", x.b, n, u.Err)
		}
		u, _ = tape.Take(u)
		for name, f := range takes() {
			v, is := f(u)
			if is || !same(v, api.Tape{Bytes: x.b, At: 1, Err: x.want}) || tape.Check(v) != x.want || tape.Over(v) != x.want {
				t.Errorf("%s behind the error of %x: At %d, %d", name, x.b, v.At, v.Err)
			}
			u = v
		}
	}
	u, _ := tape.Most(tape.Of([]byte{5, 1}), 4)
	for name, f := range takes() {
		if v, is := f(u); is || v.At != 0 || v.Err != api.ErrLong {
			t.Errorf("%s behind ErrLong: At %d, %d", name, v.At, v.Err)
		}
	}
}

// R3: what is handed in stays as it is, the room behind a list's end, too.
func TestHandedIn(t *testing.T) {
	calls := map[string]func(b, x []byte){
		"Put":       func(b, x []byte) { tape.Put(b); tape.Put(b, 7, 1<<40) },
		"PutInt":    func(b, x []byte) { tape.PutInt(b, -7) },
		"PutFlag":   func(b, x []byte) { tape.PutFlag(b, true) },
		"PutBytes":  func(b, x []byte) { tape.PutBytes(b, x); tape.PutBytes(x, b); tape.PutBytes(b, b) },
		"Of":        func(b, x []byte) { tape.Of(b) },
		"Check":     func(b, x []byte) { tape.Check(api.Tape{Bytes: b}) },
		"Over":      func(b, x []byte) { tape.Over(api.Tape{Bytes: b}) },
		"Take":      func(b, x []byte) { tape.Take(api.Tape{Bytes: b}) },
		"Most":      func(b, x []byte) { tape.Most(api.Tape{Bytes: b}, 1) },
		"TakeInt":   func(b, x []byte) { tape.TakeInt(api.Tape{Bytes: b}) },
		"TakeFlag":  func(b, x []byte) { tape.TakeFlag(api.Tape{Bytes: b}) },
		"TakeBytes": func(b, x []byte) { tape.TakeBytes(api.Tape{Bytes: b}, 9) },
	}
	for name, f := range calls {
		all := []byte{2, 3, 4, 5, 91, 92, 93, 94, 95, 96, 97, 98, 99, 98, 97, 96}
		kept := slices.Clone(all)
		f(all[:4], all[8:10])
		f(all[:0], all[8:9])
		if !bytes.Equal(all, kept) {
			t.Errorf("%s changed what it was handed: %x", name, all)
		}
	}
	l := []uint64{1, 300, 5, 99}
	tape.Put(nil, l[:3]...)
	if !slices.Equal(l, []uint64{1, 300, 5, 99}) {
		t.Errorf("Put changed its numbers: %v", l)
	}
}

// R3: nothing is read behind a list's end, however much room there is.
func TestRoomBehind(t *testing.T) {
	all := []byte{0x80, 1, 1, 1}
	if u, n := tape.Take(api.Tape{Bytes: all[:1]}); n != 0 || u.Err != api.ErrShort {
		t.Errorf("Take looked behind the end: %d %d", n, u.Err)
	}
	all = []byte{2, 1, 1, 1}
	if u, b := tape.TakeBytes(api.Tape{Bytes: all[:2]}, 9); len(b) != 0 || u.Err != api.ErrShort {
		t.Errorf("TakeBytes looked behind the end: %v %d", b, u.Err)
	}
	if u, is := tape.TakeFlag(api.Tape{Bytes: all[:1], At: 1}); is || u.Err != api.ErrShort {
		t.Errorf("TakeFlag looked behind the end: %v %d", is, u.Err)
	}
}

// R3: what is answered is new memory: it shares none with what was handed in.
func TestAnswered(t *testing.T) {
	calls := map[string]func(b []byte) []byte{
		"Put of none":       func(b []byte) []byte { return tape.Put(b) },
		"Put":               func(b []byte) []byte { return tape.Put(b, 1) },
		"PutInt":            func(b []byte) []byte { return tape.PutInt(b, 1) },
		"PutFlag":           func(b []byte) []byte { return tape.PutFlag(b, true) },
		"PutBytes":          func(b []byte) []byte { return tape.PutBytes(b, nil) },
		"PutBytes behind":   func(b []byte) []byte { return tape.PutBytes(nil, b) },
		"Of":                func(b []byte) []byte { return tape.Of(b).Bytes },
		"Take":              func(b []byte) []byte { u, _ := tape.Take(tape.Of(b)); u, _ = tape.Take(u); return u.Bytes },
		"TakeBytes":         func(b []byte) []byte { _, x := tape.TakeBytes(api.Tape{Bytes: b}, 9); return x },
		"TakeBytes of zero": func(b []byte) []byte { _, x := tape.TakeBytes(api.Tape{Bytes: b[2:]}, 9); return x },
	}
	for name, f := range takes() {
		for at := range 6 {
			calls[name+" At "+string(rune('0'+at))] = func(b []byte) []byte { u, _ := f(api.Tape{Bytes: b, At: at}); return u.Bytes }
		}
		calls[name+" with an error"] = func(b []byte) []byte { u, _ := f(api.Tape{Bytes: b, Err: api.ErrArg}); return u.Bytes }
	}
	for name, f := range calls {
		all := []byte{2, 1, 0, 4, 5, 6, 7, 8}
		kept := slices.Clone(all)
		x := f(all[:4])
		x = x[:cap(x)]
		for i := range x {
			x[i] ^= 0xff
		}
		if !bytes.Equal(all, kept) {
			t.Errorf("%s answers memory that was handed in", name)
		}
	}
}

// R3: no two lists of one answer share memory.
func TestApart(t *testing.T) {
	u, b := tape.TakeBytes(tape.Of([]byte{2, 8, 9, 7}), 2)
	want := slices.Clone(u.Bytes)
	b = b[:cap(b)]
	for i := range b {
		b[i] ^= 0xff
	}
	if !bytes.Equal(u.Bytes, want) {
		t.Errorf("the bytes that were taken are the tape's own: %x", u.Bytes)
	}
	v, _ := tape.Take(u)
	clear(u.Bytes)
	if !bytes.Equal(v.Bytes, want) {
		t.Errorf("the next tape's bytes are those of the one ahead: %x", v.Bytes)
	}
}
