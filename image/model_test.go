package image_test

import (
	"hash/crc64"
	"math"
	"slices"

	"linesman/api"
	"linesman/instr"
)

// tiny is the program of the chapter's example.
func tiny() api.Program {
	return api.Program{Mutexes: 1, Funcs: []api.Func{{Regs: 1, Code: []api.Ins{{Op: api.OpReturn}}}}}
}

// small is a program of three functions, with each Op that there is, and numbers that are unlike each other.
func small() api.Program {
	return api.Program{
		Mutexes: 11, Rwlocks: 22, Groups: 33,
		Funcs: []api.Func{
			{Regs: 9, Code: []api.Ins{
				{Op: api.OpConst, A: 1, Imm: 0x89abcdef},
				{Op: api.OpMove, A: 2, B: 1},
				{Op: api.OpArith, A: 3, B: 4, C: 5, Imm: 6},
				{Op: api.OpIf, A: 6, Imm: 7},
				{Op: api.OpLoad, A: 7, B: 8},
				{Op: api.OpCall, A: 8, B: 1, C: 2, Imm: 1},
				{Op: api.OpGo, B: 4, C: 0, Imm: 2},
				{Op: api.OpReturn, A: 5},
			}},
			{Regs: 16, Code: []api.Ins{
				{Op: api.OpStore, A: 14, B: 15},
				{Op: api.OpLock, A: 13},
				{Op: api.OpUnlock, A: 12},
				{Op: api.OpRLock, A: 11},
				{Op: api.OpRUnlock, A: 10},
				{Op: api.OpWLock, A: 9},
				{Op: api.OpWUnlock, A: 8},
				{Op: api.OpCount, A: 7, B: 6},
				{Op: api.OpWait, A: 5},
				{Op: api.OpJump, Imm: 9},
			}},
			{Regs: 3, Code: []api.Ins{{Op: api.OpYield}, {Op: api.OpYield}, {Op: api.OpReturn, A: 2}}},
		},
	}
}

// long is a program of one function with so many instructions.
func long(many int) api.Program {
	code := make([]api.Ins, many)
	for pc := range code {
		code[pc] = api.Ins{Op: api.OpYield}
	}
	code[many-1] = api.Ins{Op: api.OpReturn}
	return api.Program{Funcs: []api.Func{{Regs: 1, Code: code}}}
}

// full is a program that is as great as one may be.
func full() api.Program {
	p := api.Program{Mutexes: 64, Rwlocks: 64, Groups: 64}
	for range 32 {
		code := make([]api.Ins, 512)
		for pc := range code {
			code[pc] = api.Ins{Op: api.OpCall, A: 15, B: 0, C: 16, Imm: 31}
		}
		code[511] = api.Ins{Op: api.OpJump, Imm: 511}
		p.Funcs = append(p.Funcs, api.Func{Regs: 16, Code: code})
	}
	return p
}

// many are programs that may be, of all kinds and at edges.
func many() []api.Program {
	l := []api.Program{tiny(), small(), long(1), long(255), long(256), long(257), long(512)}
	for _, n := range []int{0, 1, 63, 64} {
		for at := range 3 {
			p := tiny()
			*[]*int{&p.Mutexes, &p.Rwlocks, &p.Groups}[at] = n
			l = append(l, p)
		}
	}
	for _, n := range []int{2, 31, 32} {
		p := tiny()
		p.Funcs = slices.Repeat(p.Funcs, n)
		l = append(l, p)
	}
	for regs := range 16 {
		p := tiny()
		p.Funcs[0].Regs = regs + 1
		l = append(l, p)
	}
	return l
}

// wrong are programs that may not be, but whose numbers stand in bytes of an image.
func wrong() []api.Program {
	l := []api.Program{
		{},
		{Mutexes: 1},
		{Funcs: []api.Func{{}}},
		{Funcs: []api.Func{{Regs: 1}}},
		{Funcs: []api.Func{{Regs: 1, Code: []api.Ins{{Op: api.OpYield}}}}},
		{Funcs: []api.Func{{Regs: 1, Code: []api.Ins{{Op: api.OpReturn, A: 1}}}}},
		{Funcs: []api.Func{{Regs: 1, Code: []api.Ins{{Op: api.OpJump, Imm: 1}}}}},
		{Funcs: []api.Func{{Regs: 1, Code: []api.Ins{{Op: api.OpGo, Imm: 1}, {Op: api.OpReturn}}}}},
		{Funcs: []api.Func{{Regs: 2, Code: []api.Ins{{Op: api.OpGo, C: 2, Imm: 1}, {Op: api.OpReturn}}}, {Regs: 1, Code: []api.Ins{{Op: api.OpReturn}}}}},
		long(513),
		long(65535),
	}
	for _, n := range []int{65, 255} {
		for at := range 3 {
			p := tiny()
			*[]*int{&p.Mutexes, &p.Rwlocks, &p.Groups}[at] = n
			l = append(l, p)
		}
	}
	for _, n := range []int{33, 255} {
		p := tiny()
		p.Funcs = slices.Repeat(p.Funcs, n)
		l = append(l, p)
	}
	for _, regs := range []int{0, 17, 255} {
		p := tiny()
		p.Funcs[0].Regs = regs
		l = append(l, p)
	}
	return l
}

// wild are programs that may not be, with numbers for which an image has no bytes.
func wild() []api.Program {
	var l []api.Program
	for _, n := range []int{-1, 256, 257, 1 << 32, 1<<32 + 1, math.MaxInt, math.MinInt} {
		for at := range 4 {
			p := tiny()
			*[]*int{&p.Mutexes, &p.Rwlocks, &p.Groups, &p.Funcs[0].Regs}[at] = n
			l = append(l, p)
		}
		p := tiny()
		p.Funcs[0].Code[0].A = n
		l = append(l, p)
	}
	p := tiny()
	p.Funcs = slices.Repeat(p.Funcs, 257)
	q := tiny()
	q.Funcs[0].Code[0].Op = 0
	return append(l, p, q, long(65537))
}

// wide is the lowest bytes of a number, the lowest first.
func wide(n uint64, many int) []byte {
	var b []byte
	for at := range many {
		b = append(b, byte(n>>(8*at)))
	}
	return b
}

// summed is bytes with their sum behind them.
func summed(b []byte) []byte {
	return append(slices.Clone(b), wide(crc64.Checksum(b, crc64.MakeTable(crc64.ECMA)), 8)...)
}

// unsummed is all of an image but the sum, by the chapter's words; the program need not be one that may be, but each of its instructions.
func unsummed(p api.Program) []byte {
	b := []byte("line")
	b = append(b, byte(p.Mutexes), byte(p.Rwlocks), byte(p.Groups), byte(len(p.Funcs)))
	for _, f := range p.Funcs {
		b = append(b, byte(f.Regs), byte(len(f.Code)), byte(len(f.Code)>>8))
		for _, i := range f.Code {
			one, e := instr.Bytes(i)
			if e != api.OK {
				panic(e)
			}
			b = append(b, one...)
		}
	}
	return b
}

// whole is an image by the chapter's words.
func whole(p api.Program) []byte {
	return summed(unsummed(p))
}

// stands tells how bytes stand to the form of an image, sum and all, whatever program that is: ErrEnds, ErrImage, or OK and how many they are, sum and all.
func stands(b []byte) (int, api.Errno) {
	at := 0
	for ; at < 4; at++ {
		if at == len(b) {
			return 0, api.ErrEnds
		}
		if b[at] != "line"[at] {
			return 0, api.ErrImage
		}
	}
	if len(b) < 8 {
		return 0, api.ErrEnds
	}
	funcs := int(b[7])
	at = 8
	for ; funcs > 0; funcs-- {
		if len(b) < at+3 {
			return 0, api.ErrEnds
		}
		code := int(b[at+1]) + 256*int(b[at+2])
		at += 3
		for ; code > 0; code-- {
			_, much, e := instr.Read(b[at:])
			if e == api.ErrIns {
				return 0, api.ErrImage
			}
			if e != api.OK {
				return 0, e
			}
			at += much
		}
	}
	if len(b) < at+8 {
		return 0, api.ErrEnds
	}
	if !slices.Equal(summed(b[:at]), b[:at+8]) {
		return 0, api.ErrImage
	}
	return at + 8, api.OK
}
