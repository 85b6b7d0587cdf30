package mutex

import (
	"cmp"
	"iter"
	"maps"
	"slices"
)

// holders are goroutines by the mutexes that they hold: one that is free is not in it.
type holders map[int]int

// holder tells who holds one, and if one does.
func (h holders) holder(i int) (by int, held bool) {
	by, held = h[i]
	return by, held
}

// take makes a goroutine the holder of a free one, and tells if it was free.
func (h holders) take(i, by int) bool {
	if _, held := h.holder(i); held {
		return false
	}
	h[i] = by
	return true
}

// leave makes one free, and tells who held it, and if one did.
func (h holders) leave(i int) (by int, held bool) {
	by, held = h.holder(i)
	delete(h, i)
	return by, held
}

// rising goes over those that are held, each with its holder, by rising numbers.
func (h holders) rising() iter.Seq2[int, int] {
	return func(yield func(int, int) bool) {
		for _, i := range sorted(maps.Keys(h), func(a, b int) int { return cmp.Compare(a, b) }) {
			if !yield(i, h[i]) {
				return
			}
		}
	}
}

// copied tells the same holders, in new memory.
func (h holders) copied() holders {
	return maps.Clone(h)
}

// same tells if others hold the same ones.
func (h holders) same(other holders) bool {
	return maps.Equal(h, other)
}

// sorted gathers things in an order, which says how one of them stands to another one.
func sorted[T any](things iter.Seq[T], order func(a, b T) int) []T {
	return slices.SortedFunc(things, order)
}
