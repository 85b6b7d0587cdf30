package image

import (
	"linesman/api"
	"linesman/digest"
	"linesman/instr"
	"linesman/octet"
)

// beginning is the bytes with which an image begins.
var beginning = [4]byte{'l', 'i', 'n', 'e'}

const (
	// codeWidth is that of how many instructions a function has.
	codeWidth = 2
	sumWidth  = 8
)

// writer is bytes to which others are added.
type writer struct {
	raw
}

// put lays parts behind what there is.
func (w *writer) put(parts ...[]byte) {
	for _, p := range parts {
		w.raw = append(w.raw, p...)
	}
}

// image writes that of a program that may be.
func (w *writer) image(p api.Program) {
	begun := beginning
	w.put(begun[:])
	tell(w.put, 1, p.Mutexes, p.Rwlocks, p.Groups, len(p.Funcs))
	for _, f := range p.Funcs {
		w.function(f)
	}
	tell(w.put, sumWidth, digest.Of(w.raw))
}

// function writes one that may be.
func (w *writer) function(f api.Func) {
	tell(w.put, 1, f.Regs)
	tell(w.put, codeWidth, len(f.Code))
	for _, i := range f.Code {
		b, _ := instr.Bytes(i)
		w.put(b)
	}
}

// tell puts numbers that a width holds, one behind the other.
func tell[N int | uint64](put func(parts ...[]byte), width int, numbers ...N) {
	for _, n := range numbers {
		b, _ := octet.Fixed(uint64(n), width)
		put(b)
	}
}
