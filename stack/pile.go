package stack

import (
	"math"
	"slices"

	"linesman/api"
	"linesman/program"
)

// none is the number of no register.
const none = -1

// pile is a stack from inside: frames of a program, the top last; there are none at its end.
type pile struct {
	api.Program
	frames frames
	result uint32
}

// begun is a pile at the beginning of a function.
func begun(p api.Program, f int, words ...uint32) pile {
	must(program.Check(p) == api.OK, api.ErrArg)
	must(bounds{0, len(p.Funcs) - 1}.hold(f), api.ErrRange)
	must(bounds{0, p.Funcs[f].Regs}.hold(len(words)), api.ErrRange)
	s := pile{Program: program.Copy(p)}
	s.enter(f, 0, words...)
	return s
}

// step does a local step, where so many frames are allowed.
func (s *pile) step(most int) {
	must(bounds{1, math.MaxInt}.hold(most), api.ErrArg)
	must(!s.ended(), api.ErrEnded)
	i, _ := s.next()
	do, local := deeds()[i.Op]
	must(local, api.ErrShared)
	must(i.Op != api.OpCall || len(s.frames) < most, api.ErrDeep)
	do(s, i)
}

// pass goes on behind an instruction that others do, with a word for a register.
func (s *pile) pass(reg int, word uint32) {
	must(!s.ended(), api.ErrEnded)
	i, _ := s.next()
	_, local := deeds()[i.Op]
	must(!local, api.ErrLocal)
	must(s.registers(none).hold(reg), api.ErrArg)
	s.put(reg, word)
	s.behind()
}

// ended tells if it is at its end.
func (s *pile) ended() bool {
	return len(s.frames) == 0
}

// next tells the instruction at the top, and where it is.
func (s *pile) next() (api.Ins, api.Site) {
	top := s.top()
	return s.Funcs[top.Func].Code[top.Pc], api.Site{Func: top.Func, Pc: top.Pc}
}

// top tells the frame that was entered last.
func (s *pile) top() *api.Frame {
	return &s.frames[len(s.frames)-1]
}

// registers tells the bounds of the numbers of the top's, from the least one that may be on.
func (s *pile) registers(least int) bounds {
	return bounds{least, len(s.top().Regs) - 1}
}

// reg tells a register of the top.
func (s *pile) reg(i int) uint32 {
	return s.top().Regs[i]
}

// put writes a word to a register of the top.
func (s *pile) put(reg int, word uint32) {
	if reg != none {
		s.top().Regs[reg] = word
	}
}

// behind goes on behind the instruction at the top.
func (s *pile) behind() {
	s.top().Pc++
}

// enter lays a frame on the others: a function, at its beginning, with words for its first registers.
func (s *pile) enter(f, dest int, words ...uint32) {
	regs := make([]uint32, s.Funcs[f].Regs)
	copy(regs, words)
	s.frames = append(s.frames, api.Frame{Func: f, Dest: dest, Regs: regs})
}

// copied tells the same pile, in new memory.
func (s *pile) copied() pile {
	return pile{program.Copy(s.Program), s.frames.copied(), s.result}
}

// same tells if another pile has the same program, the same frames and the same result.
func (s *pile) same(other *pile) bool {
	if s.result != other.result || !program.Same(s.Program, other.Program) {
		return false
	}
	return slices.EqualFunc(s.frames, other.frames, func(f, g api.Frame) bool {
		return f.Func == g.Func && f.Pc == g.Pc && f.Dest == g.Dest && slices.Equal(f.Regs, g.Regs)
	})
}

// bounds are the least number that may be, and the greatest one.
type bounds [2]int

// hold tells if a number is within them.
func (b bounds) hold(n int) bool {
	return b[0] <= n && n <= b[1]
}

// refusal is what is given up with.
type refusal api.Errno

// told tells the error of what was recovered. It is a refusal: anything else is no answer, and panics on.
func told(up any) api.Errno {
	return api.Errno(up.(refusal))
}

// must gives up with an error, unless something is so.
func must(is bool, e api.Errno) {
	if !is {
		panic(refusal(e))
	}
}
