package program

import (
	"iter"

	"linesman/api"
	"linesman/instr"
)

// place is one in the code of a function.
type place struct {
	api.Func
	pc int
	// funcs are all functions of the program.
	funcs []api.Func
}

// places goes over all of a program, by functions, each with its site.
func places(p api.Program) iter.Seq2[api.Site, place] {
	return func(yield func(api.Site, place) bool) {
		for at, f := range p.Funcs {
			for pc := range f.Code {
				if !yield(api.Site{Func: at, Pc: pc}, place{f, pc, p.Funcs}) {
					return
				}
			}
		}
	}
}

// ins is the instruction there.
func (w place) ins() api.Ins {
	return w.Code[w.pc]
}

// holds tells if an instruction may be there; the numbers of the program may be.
func (w place) holds(i api.Ins) bool {
	// What is asked leans on numbers that are within the bounds of any program.
	if instr.Check(i) != api.OK {
		return false
	}
	asks := [...]func(api.Ins) bool{w.names, w.jumps, w.hands, w.leaves}
	return every(func(ask func(api.Ins) bool) bool { return ask(i) }, asks[:]...)
}

// names tells if the function has the registers that it names.
func (w place) names(i api.Ins) bool {
	return instr.Regs(i) <= w.Regs
}

// jumps tells if it goes on within the function, if it jumps.
func (w place) jumps(i api.Ins) bool {
	switch i.Op {
	case api.OpJump, api.OpIf:
		return has(w.Code, int(i.Imm))
	}
	return true
}

// hands tells if the function that it names is there, and has a register for each word, if it names one.
func (w place) hands(i api.Ins) bool {
	switch i.Op {
	case api.OpCall, api.OpGo:
		return has(w.funcs, int(i.Imm)) && i.C <= w.funcs[i.Imm].Regs
	}
	return true
}

// leaves tells if nothing goes on behind the function's end.
func (w place) leaves(i api.Ins) bool {
	return has(w.Code, w.pc+1) || instr.Leaves(i)
}

// numbers tells if those of a program may be: of functions, registers, instructions and shared things.
func numbers(p api.Program) bool {
	if !every(within(1, api.MaxFuncs), len(p.Funcs)) || !every(within(0, api.MaxObjects), p.Mutexes, p.Rwlocks, p.Groups) {
		return false
	}
	return every(func(f api.Func) bool {
		return every(within(1, api.MaxRegs), f.Regs) && every(within(1, api.MaxCode), len(f.Code))
	}, p.Funcs...)
}

// within asks of a number if it is from the least one to the most.
func within(least, most int) func(n int) bool {
	return func(n int) bool { return least <= n && n <= most }
}

// every tells if what is asked holds of each one, in order, as far as it does.
func every[T any](holds func(T) bool, l ...T) bool {
	for _, one := range l {
		if !holds(one) {
			return false
		}
	}
	return true
}

// has tells if there is one at a place of a list.
func has[T any](l []T, at int) bool {
	return 0 <= at && at < len(l)
}
