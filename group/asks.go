package group

import "linesman/api"

// more is so much that is to be added to a group.
type more struct {
	groups *Groups
	i      int
	n      int64
}

// meets tells if an error applies, where those that the chapter names ahead of it do not.
func (m more) meets(e api.Errno) bool {
	switch e {
	case api.ErrNil:
		return m.groups.isNone()
	case api.ErrRange:
		return !m.groups.has(m.i)
	case api.ErrCount:
		return !m.groups.fits(m.i, m.n)
	}
	return false
}

// first is the first thing that is such, zero if none is.
func first[T any](is func(T) bool, things ...T) T {
	for _, one := range things {
		if is(one) {
			return one
		}
	}
	var none T
	return none
}
