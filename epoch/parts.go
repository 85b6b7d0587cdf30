package epoch

import (
	"strconv"
	"strings"

	"linesman/api"
)

const (
	clockBits = 48
	// mark stands between the numbers of a text.
	mark = "@"
)

// parts are a goroutine's number and its clock.
type parts [2]uint64

// may tells if there are such a number and such a clock.
func (p parts) may() bool {
	return within(bound{0, p[0], api.MaxId}, bound{0, p[1], api.MaxClock})
}

// epoch tells both in one number; they are such as may be.
func (p parts) epoch() api.Epoch {
	return api.Epoch(p[0]<<clockBits | p[1])
}

// tell hands them on, the goroutine's number first.
func (p parts) tell(number func(uint64)) {
	for _, n := range p {
		number(n)
	}
}

// line is a text under way.
type line []byte

// number writes a number, with the mark between it and the one ahead.
func (l *line) number(n uint64) {
	if len(*l) > 0 {
		*l = append(*l, mark...)
	}
	*l = strconv.AppendUint(*l, n, 10)
}

// read reads two numbers with the mark between them.
func read(s string) (parts, bool) {
	var p parts
	id, clock, ok := strings.Cut(s, mark)
	if !ok {
		return parts{}, false
	}
	for i, digits := range [2]string{id, clock} {
		n, err := strconv.ParseUint(digits, 10, 64)
		if err != nil {
			return parts{}, false
		}
		p[i] = n
	}
	return p, true
}

// bound is a number, between the least and the most that it may be.
type bound struct {
	least, n, most uint64
}

// within tells if each number is within its bounds.
func within(l ...bound) bool {
	return all(l, func(b bound) bool { return b.least <= b.n && b.n <= b.most })
}

// all tells if what is asked holds of each thing.
func all[T any](things []T, holds func(T) bool) bool {
	for _, thing := range things {
		if !holds(thing) {
			return false
		}
	}
	return true
}
