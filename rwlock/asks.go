package rwlock

import "linesman/api"

// ask is whether a call has to be refused, and with what.
type ask struct {
	refuses bool
	with    api.Errno
}

// asked tells the error of the first ask that refuses.
func asked(l ...ask) api.Errno {
	for _, a := range l {
		if a.refuses {
			return a.with
		}
	}
	return api.OK
}

// isOutside tells if a number is not one from 0 to the greatest that may be.
func isOutside(n, most int) bool {
	return n < 0 || n > most
}
