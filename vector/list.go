package vector

import (
	"iter"

	"linesman/api"
)

// how is how one list stands to another one: by whether it is up to the other one, then by whether the other one is up to it.
var how = [2][2]api.Rel{
	{api.RelApart, api.RelAfter},
	{api.RelBefore, api.RelSame},
}

// place tells where an answer stands in each array of how.
func place(yes bool) int {
	if yes {
		return 1
	}
	return 0
}

// list is clocks that can be asked; it may be longer than a vector, and its clocks greater.
type list api.Clock

// get tells a goroutine's clock.
func (l list) get(id int) uint64 {
	if id < 0 || id >= len(l) {
		return 0
	}
	return l[id]
}

// covers tells if a clock is no greater than that of the same goroutine here.
func (l list) covers(id int, clock uint64) bool {
	return clock <= l.get(id)
}

// upTo tells if none of its clocks is greater than the other one's.
func (l list) upTo(other list) bool {
	return l.every(other.covers)
}

// every tells if what is asked holds of each clock that is not 0.
func (l list) every(holds func(id int, clock uint64) bool) bool {
	for id, clock := range l.clocks() {
		if !holds(id, clock) {
			return false
		}
	}
	return true
}

// clocks goes over those that are not 0.
func (l list) clocks() iter.Seq2[int, uint64] {
	return func(yield func(int, uint64) bool) {
		for id, clock := range l {
			if clock != 0 && !yield(id, clock) {
				return
			}
		}
	}
}

// trimmed tells how many clocks are left without the noughts at the end.
func (l list) trimmed() int {
	many := len(l)
	for many > 0 && l[many-1] == 0 {
		many--
	}
	return many
}

// isClock tells if a clock may stand there.
func isClock(_ int, clock uint64) bool {
	return clock <= api.MaxClock
}
