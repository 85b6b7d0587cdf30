package site

import (
	"strconv"
	"strings"

	"linesman/api"
	"linesman/octet"
)

const digits = "0123456789"

// part is one of the numbers that a site has.
type part struct {
	of func(api.Site) int
	// bound is above each that may be.
	bound int
	// mark stands ahead of it in a text.
	mark string
	// width is how many bytes it has.
	width int
}

// parts are those of a site: first the one that orders sites first, that is first in texts and bytes, too.
func parts() [2]part {
	return [2]part{
		{of: func(s api.Site) int { return s.Func }, bound: api.MaxFuncs, mark: "f", width: 1},
		{of: func(s api.Site) int { return s.Pc }, bound: api.MaxCode, mark: ":", width: 2},
	}
}

// holds tells if a number is within the bound.
func (p part) holds(n int) bool {
	return 0 <= n && n < p.bound
}

// text reads the number behind its mark, and tells what is behind that.
func (p part) text(from string) (n int, behind string, e api.Errno) {
	marked, is := strings.CutPrefix(from, p.mark)
	behind = strings.TrimLeft(marked, digits)
	n, err := strconv.Atoi(strings.TrimSuffix(marked, behind))
	if !is || err != nil {
		return 0, "", api.ErrSite
	}
	return n, behind, api.OK
}

// bytes reads the number of its width, and tells what is behind that.
func (p part) bytes(from []byte) (n int, behind []byte, e api.Errno) {
	wide, e := octet.ReadFixed(from, p.width)
	if e != api.OK {
		return 0, nil, e
	}
	return int(wide), from[p.width:], api.OK
}

// read tells the site with which a text begins, or bytes; number reads one part of it, and tells what is behind that.
func read[T string | []byte](from T, number func(p part, from T) (n int, behind T, e api.Errno)) (api.Site, api.Errno) {
	var numbers [2]int
	for i, p := range parts() {
		n, behind, e := number(p, from)
		if e != api.OK {
			return api.Site{}, e
		}
		numbers[i], from = n, behind
	}
	s := api.Site{Func: numbers[0], Pc: numbers[1]}
	if Check(s) != api.OK {
		return api.Site{}, api.ErrSite
	}
	return s, api.OK
}
