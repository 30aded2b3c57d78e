package wheel

import (
	"slices"

	"curfew/api"
	"curfew/mask"
)

// slots is how many slots a level has: as many as a mask has numbers.
const slots = 1 << api.WheelBits

// level is slots, each with its dues in order, and the mask of those that have some.
type level struct {
	busy
	slots [slots][]api.Due
}

// busy is the mask of the slots that have dues.
type busy api.Mask

// first tells the first slot from one on that has dues.
func (b busy) first(from int) (int, bool) {
	return mask.First(api.Mask(b), from)
}

// mark keeps whether a slot has dues.
func (b *busy) mark(slot int, has bool) {
	one, _ := mask.Of(slot) // each slot is a number of masks
	if has {
		*b = busy(mask.Or(api.Mask(*b), one))
	} else {
		*b = busy(mask.Less(api.Mask(*b), one))
	}
}

// set lets a slot have these dues.
func (l *level) set(slot int, dues []api.Due) {
	l.slots[slot] = dues
	l.mark(slot, len(dues) > 0)
}

// put adds a due to a slot, in order. What the slot had is not written over, as somebody may still go over it.
func (l *level) put(slot int, d api.Due) {
	dues := l.slots[slot]
	at, _ := slices.BinarySearchFunc(dues, d, order)
	l.set(slot, append(append(dues[:at:at], d), dues[at:]...))
}

// cut takes the due at that index out of a slot, and does not write over what it had either.
func (l *level) cut(slot, at int) {
	dues := l.slots[slot]
	l.set(slot, append(dues[:at:at], dues[at+1:]...))
}
