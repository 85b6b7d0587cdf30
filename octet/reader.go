package octet

import (
	"iter"

	"linesman/api"
)

// raw is bytes in which things stand.
type raw []byte

// holds tells if there are so many of them from a place on.
func (b raw) holds(at int, many uint64) bool {
	return many <= uint64(len(b)-at)
}

// cut takes so many of them from a place on, with no room behind them.
func (b raw) cut(at, many int) raw {
	return b[at : at+many : at+many]
}

// value tells the number that stands as all of them, the lowest one first.
func (b raw) value() uint64 {
	var n uint64
	for i, one := range b {
		n |= uint64(one) << (8 * i)
	}
	return n
}

// pieces goes over the pieces of a width, each with where it begins, as long as there are whole ones.
func (b raw) pieces(width int) iter.Seq2[int, raw] {
	return func(yield func(int, raw) bool) {
		if !isWidth(width) {
			return
		}
		for at := 0; b.holds(at, uint64(width)); at += width {
			if !yield(at, b.cut(at, width)) {
				return
			}
		}
	}
}

// reader goes over bytes from their beginning on; at is how many it has taken.
type reader struct {
	raw
	at    int
	width int
}

// read tells the one thing with whose bytes a reader's begin, and how many these are.
func read[T any](r reader, one func(*reader) (T, api.Errno)) (T, int, api.Errno) {
	thing, e := one(&r)
	if e != api.OK {
		var nothing T
		return nothing, 0, e
	}
	return thing, r.at, api.OK
}

// take goes over so many bytes, if there are as many.
func (r *reader) take(many uint64) (raw, api.Errno) {
	if !r.holds(r.at, many) {
		return nil, api.ErrEnds
	}
	piece := r.cut(r.at, int(many))
	r.at += int(many)
	return piece, api.OK
}

// fixed reads a number of the reader's width.
func (r *reader) fixed() (uint64, api.Errno) {
	var piece raw
	e := api.ErrArg
	if !isWidth(r.width) {
		goto none
	}
	piece, e = r.take(uint64(r.width))
	if e != api.OK {
		goto none
	}
	return piece.value(), api.OK
none:
	return 0, e
}

// number reads a number's groups. It ends: the top group is refused, or is the last one.
func (r *reader) number() (uint64, api.Errno) {
	var n uint64
	for place := 0; ; place++ {
		group, e := r.take(1)
		if e != api.OK {
			return 0, e
		}
		bits := uint64(group[0])
		if place > 0 && bits == 0 || place == topGroup && bits > topMost {
			return 0, api.ErrForm
		}
		n |= (bits % followed) << (groupBits * place)
		if bits < followed {
			return n, api.OK
		}
	}
}

// text reads how many bytes a text has, and these.
func (r *reader) text() (string, api.Errno) {
	many, e := r.number()
	if e != api.OK {
		return "", e
	}
	piece, e := r.take(many)
	return string(piece), e
}
