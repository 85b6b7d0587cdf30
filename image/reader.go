package image

import (
	"iter"

	"linesman/api"
	"linesman/digest"
	"linesman/instr"
	"linesman/octet"
	"linesman/program"
)

// raw is bytes in which things stand.
type raw []byte

// has tells if there are so many from a place on.
func (b raw) has(at, many int) bool {
	return many <= len(b)-at
}

// cut tells so many from a place on.
func (b raw) cut(at, many int) []byte {
	return b[at : at+many : at+many]
}

// from tells what stands from a place on.
func (b raw) from(at int) []byte {
	return b.cut(at, len(b)-at)
}

// images goes over the programs of those that stand one behind the other, each with where it begins, as long as there are some.
func (b raw) images() iter.Seq2[int, api.Program] {
	return func(yield func(int, api.Program) bool) {
		r := reader{raw: b}
		for {
			at := r.at
			p, e := r.next()
			if e != api.OK || !yield(at, p) {
				return
			}
		}
	}
}

// reader goes over bytes from their beginning on; at is how many it has taken.
type reader struct {
	raw
	at int
}

// next reads an image, if one stands there.
func (r *reader) next() (p api.Program, e api.Errno) {
	defer func() {
		if up := recover(); up != nil {
			p, e = api.Program{}, told(up)
		}
	}()
	return r.image(), api.OK
}

// image reads one; what it is not gives up as soon as that is so.
func (r *reader) image() api.Program {
	begun := r.at
	r.beginning()
	p := api.Program{
		Mutexes: number[int](r.take, 1),
		Rwlocks: number[int](r.take, 1),
		Groups:  number[int](r.take, 1),
	}
	for range number[int](r.take, 1) {
		p.Funcs = append(p.Funcs, r.function())
	}
	sum := digest.Of(r.cut(begun, r.at-begun))
	if number[uint64](r.take, sumWidth) != sum || program.Check(p) != api.OK {
		panic(refusal(api.ErrImage))
	}
	return p
}

// beginning reads that of an image.
func (r *reader) beginning() {
	for _, c := range beginning {
		if r.take(1)[0] != c {
			panic(refusal(api.ErrImage))
		}
	}
}

// function reads one.
func (r *reader) function() api.Func {
	f := api.Func{Regs: number[int](r.take, 1)}
	for range number[int](r.take, codeWidth) {
		f.Code = append(f.Code, r.instruction())
	}
	return f
}

// instruction reads one.
func (r *reader) instruction() api.Ins {
	i, many, e := instr.Read(r.from(r.at))
	switch e {
	case api.OK:
		r.at += many
	case api.ErrEnds:
		panic(refusal(api.ErrEnds))
	default:
		panic(refusal(api.ErrImage))
	}
	return i
}

// take goes on behind so many bytes, and tells them.
func (r *reader) take(many int) []byte {
	if !r.has(r.at, many) {
		panic(refusal(api.ErrEnds))
	}
	piece := r.cut(r.at, many)
	r.at += many
	return piece
}

// number reads one of a width, of the bytes that are taken.
func number[N int | uint64](take func(many int) []byte, width int) N {
	n, _ := octet.ReadFixed(take(width), width)
	return N(n)
}

// refusal is what is given up with.
type refusal api.Errno

// told tells the error of what was recovered. It is a refusal: anything else is no answer, and panics on.
func told(up any) api.Errno {
	return api.Errno(up.(refusal))
}
