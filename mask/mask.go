// Package mask is layer 1: sets of the numbers from 0 to 63, as bits of a number (see 01-mask.md).
package mask

import (
	"iter"
	"math/bits"

	"curfew/api"
)

// Of makes the mask that has just these numbers (P1.1).
func Of(l ...int) (api.Mask, api.Errno) {
	var m api.Mask
	for _, n := range l {
		if !fits(n) {
			return 0, api.ErrArg
		}
		m |= bit(n)
	}
	return m, api.OK
}

// Span makes the mask of from, and each number behind it by step, up to to (P1.1).
func Span(from, to, step int) (api.Mask, api.Errno) {
	if from < 0 || to > api.MaskTop || from > to || step < 1 {
		return 0, api.ErrArg
	}
	// A longer step leaves the mask just as well, and n can't go round.
	step = min(step, api.MaskTop+1)
	var m api.Mask
	for n := from; n <= to; n += step {
		m |= bit(n)
	}
	return m, api.OK
}

// Has tells whether the mask has n (P1.2).
func Has(m api.Mask, n int) bool {
	return fits(n) && m&bit(n) != 0
}

// Count tells how many numbers the mask has (P1.2).
func Count(m api.Mask) int {
	return bits.OnesCount64(uint64(m))
}

// All tells the numbers that the mask has, rising (P1.2).
func All(m api.Mask) []int {
	l := make([]int, 0, Count(m))
	for n := range numbers(m) {
		l = append(l, n)
	}
	return l
}

// First tells the least number of the mask that is at least from (P1.3).
func First(m api.Mask, from int) (int, bool) {
	for n := range numbers(m) {
		if n >= from {
			return n, true
		}
	}
	return 0, false
}

// Last tells the greatest number of the mask that is at most to (P1.3).
func Last(m api.Mask, to int) (int, bool) {
	last, found := 0, false
rising:
	for n := range numbers(m) {
		switch {
		case n > to:
			break rising
		default:
			last, found = n, true
		}
	}
	return last, found
}

// Round tells First of from or, if there is none, First of 0 (P1.3).
func Round(m api.Mask, from int) (int, bool) {
	if n, ok := First(m, from); ok {
		return n, true
	}
	return First(m, 0)
}

// Or tells what any of the masks has (P1.4).
func Or(l ...api.Mask) api.Mask {
	return fold(func(a, b api.Mask) api.Mask { return a | b }, 0, l...)
}

// And tells what both masks have (P1.4).
func And(a, b api.Mask) api.Mask {
	return fold(func(a, b api.Mask) api.Mask { return a & b }, a, b)
}

// Less tells what a has, and b has not (P1.4).
func Less(a, b api.Mask) api.Mask {
	return fold(func(a, b api.Mask) api.Mask { return a &^ b }, a, b)
}

// Runs tells the runs of the mask, rising (P1.5).
func Runs(m api.Mask) []api.Run {
	// A run begins where the number below is missing, and ends where the one above is.
	begins, ends := Less(m, m<<1), Less(m, m>>1)
	l := make([]api.Run, 0, Count(begins))
	for from := range numbers(begins) {
		to, _ := First(ends, from)
		l = append(l, api.Run{From: from, To: to})
	}
	return l
}

// fits tells whether a mask can have n.
func fits(n int) bool {
	return 0 <= n && n <= api.MaskTop
}

// bit is the mask of n alone, which has to fit.
func bit(n int) api.Mask {
	return api.Mask(1) << uint(n)
}

// numbers goes over what the mask has, rising.
func numbers(m api.Mask) iter.Seq[int] {
	return func(yield func(int) bool) {
		for left := m; left != 0; left &= left - 1 {
			if !yield(bits.TrailingZeros64(uint64(left))) {
				return
			}
		}
	}
}

// fold puts the masks of l to m by with, one behind the other.
func fold(with func(a, b api.Mask) api.Mask, m api.Mask, l ...api.Mask) api.Mask {
	for _, x := range l {
		m = with(m, x)
	}
	return m
}
