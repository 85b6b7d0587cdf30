package program_test

import (
	"math"

	"linesman/api"
)

// small is a program of two functions that may be: one of 3 registers and one of 2, with a load and a store in each.
func small() api.Program {
	return api.Program{
		Funcs: []api.Func{
			{Regs: 3, Code: []api.Ins{
				{Op: api.OpConst, A: 1, Imm: 4096},
				{Op: api.OpLoad, A: 2, B: 1},
				{Op: api.OpCall, A: 0, B: 1, C: 2, Imm: 1},
				{Op: api.OpStore, A: 1, B: 2},
				{Op: api.OpReturn, A: 2},
			}},
			{Regs: 2, Code: []api.Ins{
				{Op: api.OpStore, A: 0, B: 1},
				{Op: api.OpIf, A: 1, Imm: 3},
				{Op: api.OpLoad, A: 1, B: 0},
				{Op: api.OpJump, Imm: 1},
			}},
		},
		Mutexes: 1, Rwlocks: 2, Groups: 3,
	}
}

// full is a program that is as great as one may be: each instruction at its edges, too.
func full() api.Program {
	p := api.Program{Mutexes: 64, Rwlocks: 64, Groups: 64}
	for f := range 32 {
		code := make([]api.Ins, 512)
		for pc := range code {
			code[pc] = []api.Ins{
				{Op: api.OpLoad, A: 15, B: 15},
				{Op: api.OpCall, A: 15, B: 0, C: 16, Imm: 31},
				{Op: api.OpGo, B: 15, C: 1, Imm: 31},
				{Op: api.OpIf, A: 15, Imm: 511},
				{Op: api.OpStore, A: 15, B: 15},
				{Op: api.OpConst, A: 15, Imm: math.MaxUint32},
			}[(f+pc)%6]
		}
		code[511] = api.Ins{Op: api.OpJump, Imm: 511}
		p.Funcs = append(p.Funcs, api.Func{Regs: 16, Code: code})
	}
	return p
}

// wild is a program that may not be, in any of its numbers, with loads and stores that may not be, either.
func wild() api.Program {
	p := api.Program{Mutexes: -1, Rwlocks: 65, Groups: math.MinInt}
	for range 40 {
		p.Funcs = append(p.Funcs, api.Func{Regs: 99})
	}
	p.Funcs[0].Regs = math.MinInt
	p.Funcs[3].Code = []api.Ins{{Op: api.OpLoad, A: -1, B: 77, C: 5, Imm: 9}, {Op: -6}, {Op: api.OpStore, A: math.MaxInt}, {Op: 1 << 40}}
	p.Funcs[39].Code = make([]api.Ins, 600)
	p.Funcs[39].Code[599] = api.Ins{Op: api.OpStore, Imm: 3}
	return p
}

// wildSites are those of wild.
var wildSites = []api.Site{{Func: 3, Pc: 0}, {Func: 3, Pc: 2}, {Func: 39, Pc: 599}}

// twin is another program with the same, made part by part.
func twin(p api.Program) api.Program {
	other := api.Program{Mutexes: p.Mutexes, Rwlocks: p.Rwlocks, Groups: p.Groups}
	for _, f := range p.Funcs {
		g := api.Func{Regs: f.Regs}
		g.Code = append(g.Code, f.Code...)
		other.Funcs = append(other.Funcs, g)
	}
	return other
}

// with is a program with another instruction at a site.
func with(p api.Program, s api.Site, i api.Ins) api.Program {
	p = twin(p)
	p.Funcs[s.Func].Code[s.Pc] = i
	return p
}

// from tells if a number is from the first one to the last.
func from(n, first, last int) bool {
	return n >= first && n <= last
}

// mayStand tells if an instruction may be at a site of a program whose numbers may be, as the chapters say it.
func mayStand(p api.Program, s api.Site, i api.Ins) bool {
	f := p.Funcs[s.Func]
	reg := func(n int) bool { return from(n, 0, f.Regs-1) }
	place := i.Imm < uint32(len(f.Code))
	// A function that is there, and that has a register for each of the words; those stand in registers that are there.
	hand := func() bool {
		return i.Imm < uint32(len(p.Funcs)) && from(i.C, 0, p.Funcs[i.Imm].Regs) && reg(i.B) && from(i.B+i.C, 0, f.Regs)
	}
	last := s.Pc == len(f.Code)-1
	switch i.Op {
	case 1:
		return reg(i.A) && i.B == 0 && i.C == 0 && !last
	case 2, 6, 7, 17:
		return reg(i.A) && reg(i.B) && i.C == 0 && i.Imm == 0 && !last
	case 3:
		return reg(i.A) && reg(i.B) && reg(i.C) && i.Imm >= 1 && i.Imm <= 12 && !last
	case 4:
		return i.A == 0 && i.B == 0 && i.C == 0 && place
	case 5:
		return reg(i.A) && i.B == 0 && i.C == 0 && place && !last
	case 8:
		return reg(i.A) && hand() && !last
	case 9:
		return reg(i.A) && i.B == 0 && i.C == 0 && i.Imm == 0
	case 10:
		return i.A == 0 && hand() && !last
	case 11, 12, 13, 14, 15, 16, 18:
		return reg(i.A) && i.B == 0 && i.C == 0 && i.Imm == 0 && !last
	case 19:
		return i == api.Ins{Op: 19} && !last
	}
	return false
}

// grid is each Op with numbers at and about the edges of small and of all programs, whether it may be or not.
func grid() []api.Ins {
	ops := []api.Op{math.MinInt, -1, 0}
	for op := range 20 {
		ops = append(ops, api.Op(op+1))
	}
	ops = append(ops, 256+6, 1<<32+9, math.MaxInt)
	var l []api.Ins
	for _, op := range ops {
		for _, imm := range []uint32{0, 1, 2, 4, 5, 12, 13, math.MaxUint32} {
			for _, a := range []int{-1, 0, 1, 2, 3} {
				for _, b := range []int{-1, 0, 1, 2, 3} {
					for _, c := range []int{0, 1, 2, 3, 4} {
						l = append(l, api.Ins{Op: op, A: a, B: b, C: c, Imm: imm})
					}
				}
			}
			for _, n := range []int{math.MinInt, -1, 15, 16, 17, 1 << 32, math.MaxInt} {
				l = append(l, api.Ins{Op: op, A: n, Imm: imm}, api.Ins{Op: op, B: n, Imm: imm}, api.Ins{Op: op, C: n, Imm: imm})
			}
		}
	}
	return l
}

// numbered are programs that may be, but that one of their numbers of shared things stands just so.
func numbered(n int) map[string]api.Program {
	mutexes, rwlocks, groups := small(), small(), small()
	mutexes.Mutexes, rwlocks.Rwlocks, groups.Groups = n, n, n
	return map[string]api.Program{"mutexes": mutexes, "rwlocks": rwlocks, "groups": groups}
}

// returns is a function of so many registers that returns in each of so many places.
func returns(regs, many int) api.Func {
	f := api.Func{Regs: regs}
	for range many {
		f.Code = append(f.Code, api.Ins{Op: api.OpReturn})
	}
	return f
}

// registered are programs that may be, but that one of their functions has just so many registers.
func registered(n int) map[string]api.Program {
	return map[string]api.Program{
		"registers":       {Funcs: []api.Func{returns(n, 1), returns(1, 1)}},
		"registers, last": {Funcs: []api.Func{returns(1, 1), returns(1, 1), returns(n, 1)}},
	}
}

// coded are programs that may be, but that one of their functions has just so many instructions.
func coded(n int) map[string]api.Program {
	return map[string]api.Program{
		"instructions":       {Funcs: []api.Func{returns(1, n), returns(1, 1)}},
		"instructions, last": {Funcs: []api.Func{returns(1, 1), returns(1, 1), returns(1, n)}},
	}
}

// functions is a program of so many.
func functions(n int) map[string]api.Program {
	p := api.Program{}
	for range n {
		p.Funcs = append(p.Funcs, returns(1, 1))
	}
	return map[string]api.Program{"functions": p}
}
