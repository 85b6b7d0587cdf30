package program_test

import (
	"math"
	"testing"

	"linesman/api"
	"linesman/program"
)

// equal tells if two programs are the same, part by part.
func equal(a, b api.Program) bool {
	if a.Mutexes != b.Mutexes || a.Rwlocks != b.Rwlocks || a.Groups != b.Groups || len(a.Funcs) != len(b.Funcs) {
		return false
	}
	for at, f := range a.Funcs {
		g := b.Funcs[at]
		if f.Regs != g.Regs || len(f.Code) != len(g.Code) {
			return false
		}
		for pc, i := range f.Code {
			j := g.Code[pc]
			if i.Op != j.Op || i.A != j.A || i.B != j.B || i.C != j.C || i.Imm != j.Imm {
				return false
			}
		}
	}
	return true
}

// anyPrograms are such as may be and such as may not, no two the same.
func anyPrograms() []api.Program {
	load, store := api.Ins{Op: api.OpLoad}, api.Ins{Op: api.OpStore}
	of := func(l ...api.Func) api.Program { return api.Program{Funcs: l} }
	l := []api.Program{
		{}, {Mutexes: 1}, {Rwlocks: 1}, {Groups: 1}, {Mutexes: 1, Groups: 1}, {Mutexes: -1}, {Mutexes: math.MinInt}, {Groups: math.MaxInt},
		of(api.Func{}), of(api.Func{}, api.Func{}), of(api.Func{Regs: 1}), of(api.Func{Regs: -1}), of(api.Func{Regs: 1}, api.Func{}), of(api.Func{}, api.Func{Regs: 1}),
		of(api.Func{Code: []api.Ins{load}}), of(api.Func{Code: []api.Ins{store}}), of(api.Func{Code: []api.Ins{load, store}}), of(api.Func{Code: []api.Ins{store, load}}), of(api.Func{Code: []api.Ins{load, load}}),
		of(api.Func{Code: []api.Ins{load}}, api.Func{Code: []api.Ins{store}}), of(api.Func{Code: []api.Ins{load, store}}, api.Func{}), of(api.Func{}, api.Func{Code: []api.Ins{load, store}}),
		of(api.Func{Code: []api.Ins{{}}}), of(api.Func{Code: []api.Ins{{}, {}}}),
		small(), full(), wild(),
	}
	// One part of an instruction is another one, in the first and in the last place.
	for _, s := range []api.Site{{Func: 0, Pc: 0}, {Func: 1, Pc: 3}} {
		for _, i := range []api.Ins{{Op: 99, A: 1}, {Op: 99, B: 1}, {Op: 99, C: 1}, {Op: 99, Imm: 1}, {Op: 99}, {Op: 100}} {
			l = append(l, with(small(), s, i))
		}
	}
	return l
}

func TestSame(t *testing.T) { // P9.3
	l := anyPrograms()
	for i, a := range l {
		for j, b := range l {
			if got := program.Same(a, b); got != (i == j) {
				t.Errorf("Same of %d and %d: %v", i, j, got)
			}
		}
		if !program.Same(a, twin(a)) || !program.Same(twin(a), a) {
			t.Errorf("%d is not the same as its twin", i)
		}
	}
}

func TestNilAndEmptyAreTheSame(t *testing.T) { // P9.3
	none := []api.Program{{}, {Funcs: []api.Func{}}, {Funcs: make([]api.Func, 0, 4)}}
	inside := []api.Program{{Funcs: []api.Func{{Regs: 1}}}, {Funcs: []api.Func{{Regs: 1, Code: []api.Ins{}}}}, {Funcs: []api.Func{{Regs: 1, Code: make([]api.Ins, 0, 4)}}}}
	for _, l := range [][]api.Program{none, inside} {
		for _, a := range l {
			for _, b := range l {
				if !program.Same(a, b) || !program.Same(program.Copy(a), b) {
					t.Errorf("%v and %v are not the same", a, b)
				}
			}
		}
	}
	if program.Same(none[1], inside[1]) || program.Same(inside[2], none[2]) {
		t.Error("no function is the same as one without instructions")
	}
}

func TestCopy(t *testing.T) { // P9.3
	for at, p := range anyPrograms() {
		c := program.Copy(p)
		if !equal(c, p) || !program.Same(c, p) {
			t.Errorf("the copy of %d is %v", at, c)
		}
		if program.Check(c) != program.Check(p) {
			t.Errorf("Check of the copy of %d: %v", at, program.Check(c))
		}
	}
}

// spoil changes each part of a program, in place.
func spoil(p api.Program) {
	for at, f := range p.Funcs {
		for pc := range f.Code {
			f.Code[pc] = api.Ins{Op: -7, A: -7, B: -7, C: -7, Imm: 7}
		}
		p.Funcs[at] = api.Func{Regs: -7}
	}
}

func TestCopiesGoOnApart(t *testing.T) { // P9.3
	for _, p := range []api.Program{small(), full(), wild()} {
		was := twin(p)
		one, other := program.Copy(p), program.Copy(p)
		spoil(one)
		if !equal(p, was) || !equal(other, was) {
			t.Error("what is done to a copy is done to others")
		}
		spoil(p)
		if !equal(other, was) {
			t.Error("what is done to a program is done to its copy")
		}
	}
}

func TestACopySharesNothingWithinItself(t *testing.T) { // P9.3
	code := []api.Ins{{Op: api.OpLoad}, {Op: api.OpReturn}, {Op: api.OpYield}}
	p := api.Program{Funcs: []api.Func{{Regs: 1, Code: code[:2]}, {Regs: 1, Code: code[:2]}, {Regs: 1, Code: code[:1]}, {Regs: 1, Code: code[1:]}}}
	was := twin(p)
	c := program.Copy(p)
	c.Funcs[0].Code[0] = api.Ins{Op: api.OpStore}
	c.Funcs[0].Code = append(c.Funcs[0].Code, api.Ins{Op: api.OpWait})
	c.Funcs[2].Code = append(c.Funcs[2].Code, api.Ins{Op: api.OpWait})
	c.Funcs = append(c.Funcs, api.Func{})
	for at, f := range was.Funcs[1:] {
		if got := c.Funcs[at+1]; at+1 != 2 && !equal(api.Program{Funcs: []api.Func{got}}, api.Program{Funcs: []api.Func{f}}) {
			t.Errorf("function %d is %v", at+1, got)
		}
	}
	if !equal(p, was) || code[2].Op != api.OpYield {
		t.Errorf("what was copied is %v", p)
	}
}

func TestMayBeIsNumbersAndNoneWrong(t *testing.T) { // P9.4
	for at, p := range anyPrograms() {
		_, wrong := program.Wrong(p)
		may := len(p.Funcs) >= 1 && len(p.Funcs) <= 32 && from(p.Mutexes, 0, 64) && from(p.Rwlocks, 0, 64) && from(p.Groups, 0, 64)
		for _, f := range p.Funcs {
			may = may && from(f.Regs, 1, 16) && from(len(f.Code), 1, 512)
		}
		if wrong && !may {
			t.Errorf("%d has numbers that may not be, and a site", at)
		}
		if is := program.Check(p) == api.OK; is != (may && !wrong) {
			t.Errorf("%d: Check: %v, numbers: %v, Wrong: %v", at, is, may, wrong)
		}
	}
}

func TestOneInstructionIsAnotherOne(t *testing.T) { // P9.4
	// Each place of a program that may be has another one, in turn: just if that may be there, the program may be.
	few := []api.Ins{{Op: api.OpYield}, {Op: api.OpReturn, A: 1}, {Op: api.OpJump}, {Op: api.OpCall, A: 1, B: 0, C: 2, Imm: 1}, {Op: api.OpGo, C: 1}, {Op: api.OpCount, B: 1}, {Op: api.OpIf, Imm: 4}, {Op: api.OpStore, A: 2}, {Op: api.OpArith, Imm: 12}}
	p := small()
	for f := range p.Funcs {
		for pc := range p.Funcs[f].Code {
			s := api.Site{Func: f, Pc: pc}
			for _, i := range few {
				if may := mayStand(p, s, i); (program.Check(with(p, s, i)) == api.OK) != may {
					t.Errorf("%v at %v: not %v", i, s, may)
				}
			}
		}
	}
}
