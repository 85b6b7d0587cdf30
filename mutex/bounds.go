package mutex

import "linesman/api"

// bounds are the least number that may be, and the greatest one.
type bounds [2]int

// hold tells if a number is within them.
func (b bounds) hold(n int) bool {
	return b[0] <= n && n <= b[1]
}

// ask is a number that has to be within bounds, and what is told of one that is not.
type ask struct {
	number    int
	within    bounds
	otherwise api.Errno
}

// asked tells the error of the first number that is not within its bounds.
func asked(l ...ask) api.Errno {
	for _, a := range l {
		if !a.within.hold(a.number) {
			return a.otherwise
		}
	}
	return api.OK
}
