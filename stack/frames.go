package stack

import (
	"iter"
	"slices"

	"linesman/api"
)

// frames are some, the lowest one first.
type frames []api.Frame

// down goes over them from the top down, each with its number.
func (l frames) down() iter.Seq2[int, api.Frame] {
	return func(yield func(int, api.Frame) bool) {
		for at := range l {
			if !yield(at, l[len(l)-1-at]) {
				return
			}
		}
	}
}

// copied tells the same frames, in new memory.
func (l frames) copied() frames {
	return copied(l, func(f api.Frame) api.Frame {
		f.Regs = slices.Clone(f.Regs)
		return f
	})
}

// copied tells a list of copies.
func copied[T any](l []T, copyOf func(T) T) []T {
	copies := make([]T, len(l))
	for at, thing := range l {
		copies[at] = copyOf(thing)
	}
	return copies
}
