package group

import (
	"iter"

	"linesman/api"
)

// counts are those of so many groups, by their numbers; of those that are not there they stay 0.
type counts struct {
	of   [api.MaxObjects]int64
	many int
}

// count tells the count of a group that is there.
func (c *counts) count(i int) int64 {
	return c.of[i]
}

// fits tells if a group that is there may count so much more. The sum itself could be beyond 64 bits; the room on both sides of a count is not.
func (c *counts) fits(i int, n int64) bool {
	return n >= -c.of[i] && n <= api.MaxCount-c.of[i]
}

// add counts more, where that fits, and tells what the count is then.
func (c *counts) add(i int, n int64) int64 {
	c.of[i] += n
	return c.of[i]
}

// rising goes over all groups that are there, each with its count, by rising numbers.
func (c *counts) rising() iter.Seq2[int, int64] {
	return func(yield func(int, int64) bool) {
		for i, count := range c.of[:c.many] {
			if !yield(i, count) {
				return
			}
		}
	}
}

// copied tells the same counts, in new memory.
func (c *counts) copied() *counts {
	other := *c
	return &other
}

// same tells if others are as many, and each is the same.
func (c *counts) same(other *counts) bool {
	return *c == *other
}
