package site

import (
	"cmp"
	"maps"
	"slices"

	"linesman/api"
)

// couple is a pair that is held against others.
type couple api.Pair

// may tells if it is a pair that may be.
func (c couple) may() bool {
	return Check(c.A) == api.OK && Check(c.B) == api.OK && Order(c.A, c.B) <= 0
}

// order tells which of two is first.
func (c couple) order(other couple) int {
	return cmp.Or(Order(c.A, other.A), Order(c.B, other.B))
}

// set is couples, each once.
type set map[couple]struct{}

// holds tells if a couple is one of them.
func (s set) holds(c couple) bool {
	_, is := s[c]
	return is
}

// put puts a couple in, and tells if it was not there.
func (s set) put(c couple) bool {
	if s.holds(c) {
		return false
	}
	s[c] = struct{}{}
	return true
}

// rising tells all of them, the first one first.
func (s set) rising() []couple {
	return slices.SortedFunc(maps.Keys(s), couple.order)
}
