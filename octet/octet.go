// Package octet is layer 1: see shared/doc/01-octet.md.
package octet

import (
	"bytes"
	"iter"

	"linesman/api"
)

// widths are those that numbers have.
var widths = [4]int{1, 2, 4, 8}

const (
	groupBits = 7
	// followed is added to each group that has another one behind it.
	followed = 1 << groupBits
	// topGroup is the last place that a group of 64 bits has; topMost is all that 64 bits leave for it.
	topGroup = 9
	topMost  = 1
)

// Fixed tells a number's bytes, of a width.
func Fixed(n uint64, width int) ([]byte, api.Errno) {
	e := api.ErrArg
	if !isWidth(width) {
		goto none
	}
	e = api.ErrRange
	if !fits(n, width) {
		goto none
	}
	return lowestFirst(n, width), api.OK
none:
	return nil, e
}

// ReadFixed reads one.
func ReadFixed(b []byte, width int) (uint64, api.Errno) {
	n, _, e := read(reader{raw: b, width: width}, (*reader).fixed)
	return n, e
}

// Number tells a number's bytes.
func Number(n uint64) []byte {
	var b []byte
	for ; n >= followed; n >>= groupBits {
		b = append(b, byte(n)|followed)
	}
	return append(b, byte(n))
}

// ReadNumber reads one.
func ReadNumber(b []byte) (n uint64, many int, e api.Errno) {
	return read(reader{raw: b}, (*reader).number)
}

// Text tells a text's bytes.
func Text(s string) []byte {
	return join(Number(uint64(len(s))), []byte(s))
}

// ReadText reads one.
func ReadText(b []byte) (s string, many int, e api.Errno) {
	return read(reader{raw: b}, (*reader).text)
}

// Each goes over numbers of a width.
func Each(b []byte, width int) iter.Seq2[int, uint64] {
	// The range goes over the bytes as they are now, whoever writes to them later.
	kept := raw(bytes.Clone(b))
	return func(yield func(int, uint64) bool) {
	numbers:
		for at, piece := range kept.pieces(width) {
			if !yield(at, piece.value()) {
				break numbers
			}
		}
	}
}

// isWidth tells if numbers have that width.
func isWidth(width int) bool {
	for _, w := range widths {
		if w == width {
			return true
		}
	}
	return false
}

// fits tells if a width holds a number.
func fits(n uint64, width int) bool {
	return n>>(8*width) == 0
}

// lowestFirst tells so many bytes of a number.
func lowestFirst(n uint64, width int) []byte {
	b := make([]byte, width)
	for i := range b {
		b[i] = byte(n)
		n >>= 8
	}
	return b
}

// join lays parts one behind the other, in new memory.
func join(parts ...[]byte) []byte {
	var all []byte
	for _, p := range parts {
		all = append(all, p...)
	}
	return all
}
