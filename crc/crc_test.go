package crc_test

import (
	"bytes"
	"math/rand"
	"slices"
	"testing"

	"curfew/api"
	"curfew/crc"
)

// steps is what the eight steps make of a number, by the words of the chapter: halved, and ^ if it was odd.
func steps(n uint32) uint32 {
	for range 8 {
		was := n
		n /= 2
		if was%2 == 1 {
			n ^= 0x82F63B78
		}
	}
	return n
}

// sum is the sum of bytes by the words of the chapter, step by step.
func sum(b []byte) uint32 {
	it := uint32(0xFFFFFFFF)
	for _, x := range b {
		it = steps(it ^ uint32(x))
	}
	return it ^ 0xFFFFFFFF
}

// seal is the bytes sealed, by the words of the chapter.
func seal(b []byte) []byte {
	s := sum(b)
	return append(slices.Clone(b), byte(s%256), byte(s/256%256), byte(s/256/256%256), byte(s/256/256/256))
}

// rows are no bytes, single ones, those at the edges, and some of each length; the same in every run.
func rows() [][]byte {
	l := [][]byte{nil, {}, []byte("123456789"), bytes.Repeat([]byte{0}, 32), bytes.Repeat([]byte{0xFF}, 32)}
	for n := range 256 {
		l = append(l, []byte{byte(n)}, []byte{0, byte(n)}, []byte{byte(n), 0, 0, 0})
	}
	r := rand.New(rand.NewSource(5))
	for _, n := range []int{1, 2, 3, 4, 5, 6, 7, 8, 9, 15, 16, 17, 31, 32, 33, 63, 64, 65, 127, 128, 255, 256, 257, 1000, 4096, 16384, 70001} {
		l = append(l, some(r, n), bytes.Repeat([]byte{byte(n)}, n))
	}
	return l
}

// some are n bytes by chance.
func some(r *rand.Rand, n int) []byte {
	b := make([]byte, n)
	r.Read(b)
	return b
}

// P3.1: Sum, of bytes whose sum is known from elsewhere.
func TestSumKnown(t *testing.T) {
	rising, falling := make([]byte, 32), make([]byte, 32)
	for n := range 32 {
		rising[n], falling[31-n] = byte(n), byte(n)
	}
	for _, c := range []struct {
		b    []byte
		want uint32
	}{
		{nil, 0},
		{[]byte{}, 0},
		{[]byte("a"), 0xC1D04330},
		{[]byte("123456789"), 0xE3069283},
		{bytes.Repeat([]byte{0}, 32), 0x8A9136AA},
		{bytes.Repeat([]byte{0xFF}, 32), 0x62A8AB43},
		{rising, 0x46DD794E},
		{falling, 0x113FDB5C},
		{[]byte{0xFF, 0xFF, 0xFF, 0xFF}, 0xFFFFFFFF},
	} {
		if s := crc.Sum(c.b); s != c.want {
			t.Errorf("Sum(%x): %X, want %X", c.b, s, c.want)
		}
	}
}

// P3.1: Sum, step by step.
func TestSum(t *testing.T) {
	for _, b := range rows() {
		if s, want := crc.Sum(b), sum(b); s != want {
			t.Errorf("Sum of %d bytes, %.20x: %X, want %X", len(b), b, s, want)
		}
	}
}

// P3.1, P3.4: More by two parts, wherever they meet, is the sum of all.
func TestMore(t *testing.T) {
	for _, b := range rows() {
		want := sum(b)
		for _, at := range []int{0, 1, 2, 3, 4, 5, len(b) / 2, len(b) - 1, len(b)} {
			if at < 0 || at > len(b) {
				continue
			}
			if s := crc.More(sum(b[:at]), b[at:]); s != want {
				t.Errorf("More of %d bytes, parted at %d: %X, want %X", len(b), at, s, want)
			}
		}
		if s := crc.More(0, b); s != want {
			t.Errorf("More of 0 and %d bytes: %X, want %X", len(b), s, want)
		}
	}
}

// P3.1: More of any sum: that of four bytes that have it, found by going back from it, and what is behind them.
func TestMoreOfAny(t *testing.T) {
	r := rand.New(rand.NewSource(6))
	sums := []uint32{0, 1, 0x7FFFFFFF, 0x80000000, 0xFFFFFFFE, 0xFFFFFFFF, 0x82F63B78, 0xE3069283}
	for range 100 {
		sums = append(sums, r.Uint32())
	}
	for _, s := range sums {
		if got := crc.More(s, nil); got != s {
			t.Errorf("More(%X, nothing): %X", s, got)
		}
		if got := crc.More(s, []byte{}); got != s {
			t.Errorf("More(%X, an empty list): %X", s, got)
		}
		ahead := having(s)
		if got := sum(ahead); got != s {
			t.Fatalf("the bytes %x have the sum %X, want %X", ahead, got, s)
		}
		for _, n := range []int{1, 2, 4, 5, 33} {
			b := some(r, n)
			if got, want := crc.More(s, b), sum(slices.Concat(ahead, b)); got != want {
				t.Errorf("More(%X, %x): %X, want %X", s, b, got, want)
			}
		}
	}
}

// having are four bytes with this sum: each step is undone, as only what was odd has the top bit of 82F63B78.
func having(s uint32) []byte {
	it := ^s
	for range 32 {
		if it&0x80000000 != 0 {
			it = (it^0x82F63B78)<<1 | 1
		} else {
			it <<= 1
		}
	}
	it = ^it
	return []byte{byte(it), byte(it >> 8), byte(it >> 16), byte(it >> 24)}
}

// P3.2: Table, number by number, and by the chapter's example.
func TestTable(t *testing.T) {
	table := crc.Table()
	for n, x := range table {
		if want := steps(uint32(n)); x != want {
			t.Errorf("Table at %d: %X, want %X", n, x, want)
		}
	}
	for n, want := range map[int]uint32{0: 0, 1: 0xF26B8303, 128: 0x82F63B78, 255: 0xAD7D5351} {
		if table[n] != want {
			t.Errorf("Table at %d: %X, want %X", n, table[n], want)
		}
	}
}

// P3.3: Seal: the bytes, and their sum's four, the lowest first.
func TestSeal(t *testing.T) {
	for _, c := range []struct{ b, want []byte }{
		{nil, []byte{0, 0, 0, 0}},
		{[]byte{}, []byte{0, 0, 0, 0}},
		{[]byte("123456789"), []byte("123456789\x83\x92\x06\xE3")},
	} {
		if got := crc.Seal(c.b); !bytes.Equal(got, c.want) {
			t.Errorf("Seal(%x): %x, want %x", c.b, got, c.want)
		}
	}
	for _, b := range rows() {
		if got := crc.Seal(b); !bytes.Equal(got, seal(b)) {
			t.Errorf("Seal of %d bytes, %.20x: ends with %x", len(b), b, got[max(0, len(got)-4):])
		}
	}
}

// P3.3, P3.4: Open of what is sealed, by the words of the chapter and by Seal.
func TestOpen(t *testing.T) {
	for _, b := range rows() {
		for name, sealed := range map[string][]byte{"by the chapter": seal(b), "by Seal": crc.Seal(b)} {
			if got, err := crc.Open(sealed); err != api.OK || !bytes.Equal(got, b) {
				t.Errorf("Open of %d bytes sealed %s: %d bytes, %d", len(b), name, len(got), err)
			}
		}
	}
}

// P3.3: Open of what is too short, whatever it says, and however much room is behind it.
func TestOpenShort(t *testing.T) {
	whole := []byte{0, 0, 0, 0}
	for _, b := range [][]byte{nil, {}, {0}, {1, 2}, {0, 0, 0}, {0xFF, 0xFF, 0xFF}, whole[:0], whole[:1], whole[:3], seal([]byte{7})[:3]} {
		if got, err := crc.Open(b); err != api.ErrShort || len(got) != 0 {
			t.Errorf("Open(%x): %x %d", b, got, err)
		}
	}
}

// P3.3: Open of what is not sealed.
func TestOpenWrong(t *testing.T) {
	nine := seal([]byte("123456789"))
	for _, b := range [][]byte{
		{1, 0, 0, 0}, {0, 0, 0, 1}, {0xFF, 0xFF, 0xFF, 0xFF},
		{0, 0, 0, 0, 0}, {0, 0, 0, 0, 1},
		[]byte("123456789"), nine[1:], nine[:len(nine)-1], append(slices.Clone(nine), 0), append([]byte{0}, nine...),
		[]byte("123456789\xE3\x06\x92\x83"), []byte("123456789\x7C\x6D\xF9\x1C"),
	} {
		if got, err := crc.Open(b); err != api.ErrSum || len(got) != 0 {
			t.Errorf("Open(%x): %x %d", b, got, err)
		}
	}
	for _, b := range rows() {
		for n := range 4 {
			sealed := seal(b)
			sealed[len(b)+n]++
			if got, err := crc.Open(sealed); err != api.ErrSum || len(got) != 0 {
				t.Errorf("Open of %d bytes with the byte %d of the sum one more: %d bytes, %d", len(b), n, len(got), err)
			}
		}
	}
}

// P3.4: More by parts, however many, is Sum of all.
func TestParts(t *testing.T) {
	r := rand.New(rand.NewSource(7))
	for range 200 {
		b := some(r, r.Intn(300))
		left, s := b, uint32(0)
		for len(left) > 0 {
			n := min(r.Intn(9), len(left))
			s = crc.More(s, left[:n])
			left = left[n:]
		}
		if want := crc.Sum(b); s != want {
			t.Errorf("More by parts of %d bytes: %X, want %X", len(b), s, want)
		}
	}
}

// P3.4: the sum of three rows of one length, put together by ^, is their sums' ^.
func TestThree(t *testing.T) {
	r := rand.New(rand.NewSource(8))
	for n := range 300 {
		x, y, z := some(r, n), some(r, n), some(r, n)
		all := make([]byte, n)
		for i := range all {
			all[i] = x[i] ^ y[i] ^ z[i]
		}
		if got, want := crc.Sum(all), crc.Sum(x)^crc.Sum(y)^crc.Sum(z); got != want {
			t.Errorf("the sum of three rows of %d bytes: %X, want %X", n, got, want)
		}
	}
}

// turned is b with the bits of these 32 turned, from the bit at on; those that are behind its end are left.
func turned(b []byte, at int, which uint32) []byte {
	b = slices.Clone(b)
	for n := range 32 {
		if which>>n%2 == 1 && (at+n)/8 < len(b) {
			b[(at+n)/8] ^= 1 << ((at + n) % 8)
		}
	}
	return b
}

// bursts are which of 32 bits are turned: each one, each two, the first eight in each way, all, and some by chance.
func bursts(r *rand.Rand) []uint32 {
	l := []uint32{0xFFFFFFFF, 0x82F63B78, 0xFFFF0000, 0x0000FFFF, 0x55555555, 0xAAAAAAAA, 0x80000001}
	for n := range 32 {
		for m := range n + 1 {
			l = append(l, 1<<n|1<<m)
		}
	}
	for n := range uint32(256) {
		l = append(l, n, n<<24)
	}
	for range 100 {
		l = append(l, r.Uint32())
	}
	return l
}

// P3.4: of bytes some of whose bits are turned, all within 32 of one another, the sum is another one; sealed ones are not opened, be it ahead of the sum, in it, or over its beginning.
func TestTurned(t *testing.T) {
	r := rand.New(rand.NewSource(9))
	for _, n := range []int{0, 1, 3, 4, 5, 12} {
		b := some(r, n)
		sealed := crc.Seal(b)
		for at := range 8 * len(sealed) {
			for _, which := range bursts(r) {
				if x := turned(b, at, which); !bytes.Equal(x, b) && crc.Sum(x) == crc.Sum(b) {
					t.Fatalf("the sum of %x is that of %x", x, b)
				}
				x := turned(sealed, at, which)
				if bytes.Equal(x, sealed) {
					continue
				}
				if got, err := crc.Open(x); err != api.ErrSum || len(got) != 0 {
					t.Fatalf("Open of %x, of which bits were turned to %x: %x %d", sealed, x, got, err)
				}
			}
		}
	}
}

// P3.4: each single bit of longer bytes, and each burst about the beginning of their sum.
func TestTurnedLong(t *testing.T) {
	r := rand.New(rand.NewSource(10))
	sealed := crc.Seal(some(r, 2000))
	for at := range 8 * len(sealed) {
		if _, err := crc.Open(turned(sealed, at, 1)); err != api.ErrSum {
			t.Fatalf("Open with the bit %d turned: %d", at, err)
		}
	}
	for at := 8*2000 - 32; at < 8*2000+1; at++ {
		for range 40 {
			if _, err := crc.Open(turned(sealed, at, r.Uint32()|1)); err != api.ErrSum {
				t.Fatalf("Open with bits turned from %d on: %d", at, err)
			}
		}
	}
}

// R3: what is handed in stays as it is, the room behind a list's end, too, and that is not read.
func TestHandedIn(t *testing.T) {
	sealed := seal([]byte("12345"))
	all := append(slices.Clone(sealed), 91, 92, 93, 94, 95, 96, 97, 98)
	kept := slices.Clone(all)
	b := all[:len(sealed)]
	if s := crc.Sum(b); s != sum(sealed) {
		t.Errorf("Sum read behind the end: %X", s)
	}
	if s := crc.More(7, b); s != crc.More(7, slices.Clip(slices.Clone(b))) {
		t.Errorf("More read behind the end: %X", s)
	}
	if got := crc.Seal(b); !bytes.Equal(got, seal(sealed)) {
		t.Errorf("Seal read behind the end: %x", got)
	}
	if got, err := crc.Open(b); err != api.OK || string(got) != "12345" {
		t.Errorf("Open read behind the end: %x %d", got, err)
	}
	if _, err := crc.Open(all); err != api.ErrSum {
		t.Errorf("Open of more than was sealed: %d", err)
	}
	if !bytes.Equal(all, kept) {
		t.Errorf("what was handed in was changed: %x", all)
	}
}

// R3: what is answered is new memory, and hangs on nothing that was done to an earlier answer.
func TestAnswered(t *testing.T) {
	all := append(seal([]byte("12345")), 91, 92, 93, 94)
	kept := slices.Clone(all)
	opened, err := crc.Open(all[:9])
	if err != api.OK {
		t.Fatalf("Open: %d", err)
	}
	for _, x := range [][]byte{crc.Seal(all[:5]), crc.Seal(all[:0]), crc.Seal(all[:9]), opened} {
		x = x[:cap(x)]
		for i := range x {
			x[i] ^= 0xFF
		}
	}
	none := []byte{0, 0, 0, 0, 9}
	empty, _ := crc.Open(none[:4])
	empty = empty[:cap(empty)]
	for i := range empty {
		empty[i] ^= 0xFF
	}
	if !bytes.Equal(all, kept) || !bytes.Equal(none, []byte{0, 0, 0, 0, 9}) {
		t.Errorf("what was answered is what was handed in: %x %x", all, none)
	}
	table := crc.Table()
	clear(table[:])
	if x := crc.Table()[1]; x != 0xF26B8303 || crc.Sum([]byte("123456789")) != 0xE3069283 {
		t.Errorf("Table answers what the package keeps: %X", x)
	}
}

// R5: the answers are the same ones, however often they are asked for.
func TestSame(t *testing.T) {
	b := []byte("123456789")
	first, table := crc.Sum(b), crc.Table()
	for range 5 {
		crc.More(99, []byte("between"))
		if crc.Sum(b) != first || crc.Table() != table || !bytes.Equal(crc.Seal(b), seal(b)) {
			t.Fatal("an answer became another one")
		}
	}
}
