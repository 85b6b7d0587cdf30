package epoch

import (
	"iter"

	"linesman/api"
)

// stand is an epoch that can be asked for its parts.
type stand api.Epoch

// parts tells both.
func (s stand) parts() parts {
	return parts{uint64(s) >> clockBits, uint64(s) % (1 << clockBits)}
}

// clock tells the clock alone.
func (s stand) clock() uint64 {
	return s.parts()[1]
}

// at tells the same goroutine's epoch at another clock.
func (s stand) at(clock uint64) api.Epoch {
	return parts{s.parts()[0], clock}.epoch()
}

// walk is an epoch under way to its clock's end.
type walk struct {
	stand
	end uint64
}

// ends tells if the end is one that a clock may have.
func (w walk) ends() bool {
	return within(bound{1, w.end, api.MaxClock})
}

// full tells if the clock goes no further.
func (w walk) full() bool {
	return w.clock() >= w.end
}

// clocks goes over the epoch's clock and those behind it up to the end, each with its number.
func (w walk) clocks() iter.Seq2[int, uint64] {
	return func(yield func(int, uint64) bool) {
		if !w.ends() {
			return
		}
		first := w.clock()
		for clock := first; clock <= w.end; clock++ {
			if !yield(int(clock-first), clock) {
				return
			}
		}
	}
}
