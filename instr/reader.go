package instr

import (
	"bytes"
	"iter"
	"strconv"

	"linesman/api"
	"linesman/arith"
	"linesman/octet"
)

const (
	// blank stands between words.
	blank  = " "
	digits = "0123456789"
)

// raw is bytes in which things stand.
type raw []byte

// from tells what stands from a place on.
func (b raw) from(at int) []byte {
	return b[at:]
}

// instructions goes over those that stand one behind the other, each with where it begins, as long as there are some.
func (b raw) instructions() iter.Seq2[int, api.Ins] {
	return func(yield func(int, api.Ins) bool) {
		at := 0
		for {
			i, many, e := Read(b.from(at))
			if e != api.OK || !yield(at, i) {
				return
			}
			at += many
		}
	}
}

// reader goes over bytes from their beginning on; at is how many it has taken.
type reader struct {
	raw
	at int
}

// read tells the one thing with which begins what is left, and goes on behind it; it gives up if that is refused.
func read[T any](r *reader, one func(left []byte) (T, int, api.Errno)) T {
	thing, many, e := one(r.from(r.at))
	if e != api.OK {
		panic(refusal(e))
	}
	r.at += many
	return thing
}

// bytes reads an instruction's.
func (r *reader) bytes() api.Ins {
	i := read(r, func(left []byte) (api.Ins, int, api.Errno) {
		n, e := octet.ReadFixed(left, 1)
		return api.Ins{Op: api.Op(n)}, 1, e
	})
	s, is := shapes()[i.Op]
	if !is {
		panic(refusal(api.ErrIns))
	}
	for _, p := range s.parts() {
		p.put(&i, read(r, func(left []byte) (int64, int, api.Errno) {
			n, e := octet.ReadFixed(left, p.width)
			return int64(n), p.width, e
		}))
	}
	if !s.holds(i) {
		panic(refusal(api.ErrIns))
	}
	return i
}

// text reads the words with which an instruction's begins.
func (r *reader) text() api.Ins {
	i := read(r, begun)
	for _, p := range shapes()[i.Op].parts() {
		is := p.is(i)
		if is.unsaid {
			continue
		}
		p.put(&i, read(r, func(left []byte) (int64, int, api.Errno) {
			return is.word(left)
		}))
	}
	return i
}

// begun tells of the first word of a text what it says of the instruction.
func begun(text []byte) (api.Ins, int, api.Errno) {
	head, _, _ := bytes.Cut(text, []byte(blank))
	name := string(head)
	if k, e := arith.Parse(name); e == api.OK {
		return api.Ins{Op: api.OpArith, Imm: uint32(k)}, len(name), api.OK
	}
	for op, known := range names {
		if known == name && name != "" {
			return api.Ins{Op: api.Op(op)}, len(name), api.OK
		}
	}
	return api.Ins{}, 0, api.ErrIns
}

// word reads a number behind a blank and its mark.
func (n number) word(left []byte) (int64, int, api.Errno) {
	ahead := []byte(blank + n.mark)
	behind, is := bytes.CutPrefix(left, ahead)
	many := len(behind) - len(bytes.TrimLeft(behind, digits))
	value, err := strconv.ParseUint(string(behind[:many]), 10, 32)
	if !is || err != nil {
		return 0, 0, api.ErrIns
	}
	return int64(value), len(ahead) + many, api.OK
}
