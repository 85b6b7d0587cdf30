package stack_test

import (
	"math"
	"math/rand/v2"
	"slices"
	"testing"

	"linesman/api"
	"linesman/program"
	"linesman/stack"
)

// local are the Ops whose instructions are local, shared all others, as the chapters have them.
var (
	local  = []api.Op{1, 2, 3, 4, 5, 8, 9, 19}
	shared = []api.Op{6, 7, 10, 11, 12, 13, 14, 15, 16, 17, 18}
)

// huge are numbers that nothing has so many of.
var huge = []int{math.MinInt, math.MinInt + 1, -1 << 32, 1 << 31, 1 << 32, 1<<32 + 1, math.MaxInt - 1, math.MaxInt}

// code is a function of so many registers.
func code(regs int, l ...api.Ins) api.Func {
	return api.Func{Regs: regs, Code: l}
}

// of is a program of functions.
func of(l ...api.Func) api.Program {
	return api.Program{Funcs: l}
}

// back returns a register.
func back(reg int) api.Ins {
	return api.Ins{Op: api.OpReturn, A: reg}
}

// sum is the program of the chapter's example.
func sum() api.Program {
	return of(
		code(3, api.Ins{Op: api.OpCall, A: 0, B: 1, C: 2, Imm: 1}, back(0)),
		code(2, api.Ins{Op: api.OpArith, A: 0, B: 0, C: 1, Imm: uint32(api.ArithAdd)}, back(0)),
	)
}

// full is a program that is as great as one may be; each instruction calls the last function with all words.
func full() api.Program {
	f := code(16, slices.Repeat([]api.Ins{{Op: api.OpCall, A: 15, C: 16, Imm: 31}}, 512)...)
	f.Code[511] = back(15)
	p := api.Program{Mutexes: 64, Rwlocks: 64, Groups: 64}
	for range 32 {
		p.Funcs = append(p.Funcs, code(16, slices.Clone(f.Code)...))
	}
	return p
}

// bad are programs that may not be: by a number, by an instruction.
func bad() []api.Program {
	l := []api.Program{{}, of(), of(code(0, back(0))), of(code(17, back(0))), of(code(1)), of(code(1, back(1))), of(code(1, back(0), api.Ins{Op: api.OpYield}))}
	l = append(l, of(slices.Repeat([]api.Func{code(1, back(0))}, 33)...), of(code(1, slices.Repeat([]api.Ins{back(0)}, 513)...)))
	for _, n := range []int{-1, 65} {
		p, q, r := sum(), sum(), sum()
		p.Mutexes, q.Rwlocks, r.Groups = n, n, n
		l = append(l, p, q, r)
	}
	for _, i := range []api.Ins{{}, {Op: 20}, {Op: api.OpYield, A: 1}, {Op: api.OpMove, A: 3}, {Op: api.OpJump, Imm: 2}, {Op: api.OpCall, C: 3, Imm: 1}, {Op: api.OpCall, Imm: 2}} {
		p := sum()
		p.Funcs[0].Code[0] = i
		l = append(l, p)
	}
	return l
}

// made is a stack of what may be.
func made(t *testing.T, p api.Program, f int, args ...uint32) *stack.Stack {
	t.Helper()
	s, e := stack.New(p, f, args...)
	if s == nil || e != api.OK {
		t.Fatalf("New(%v, %d, %v): %v, %v", p, f, args, s, e)
	}
	return s
}

// steps does so many that are not refused.
func steps(t *testing.T, s *stack.Stack, many int) {
	t.Helper()
	for n := range many {
		if e := s.Step(math.MaxInt); e != api.OK {
			t.Fatalf("step %d: %v", n, e)
		}
	}
}

// on does steps until one is refused, with a look ahead of each, and tells why that one is.
func on(t *testing.T, s *stack.Stack, most int, ahead func()) api.Errno {
	t.Helper()
	for range 1 << 20 {
		ahead()
		if e := s.Step(most); e != api.OK {
			return e
		}
	}
	t.Fatalf("it never ends")
	return api.OK
}

// model is a stack as the chapter says it: the top is the first of its frames.
type model struct {
	p      api.Program
	frames []api.Frame
	result uint32
}

// modelled is one at a function's beginning.
func modelled(p api.Program, f int, args ...uint32) *model {
	m := &model{p: p}
	m.enter(f, 0, args)
	return m
}

func (m *model) enter(f, dest int, args []uint32) {
	var regs []uint32
	for i := range m.p.Funcs[f].Regs {
		word := uint32(0)
		if i < len(args) {
			word = args[i]
		}
		regs = append(regs, word)
	}
	m.frames = slices.Insert(m.frames, 0, api.Frame{Func: f, Dest: dest, Regs: regs})
}

// copied is another one with the same frames.
func (m *model) copied() *model {
	other := &model{p: m.p, result: m.result}
	for _, f := range m.frames {
		f.Regs = append([]uint32{}, f.Regs...)
		other.frames = append(other.frames, f)
	}
	return other
}

// next is the instruction at the top.
func (m *model) next() api.Ins {
	return m.p.Funcs[m.frames[0].Func].Code[m.frames[0].Pc]
}

// reckoned are some kinds, just as many as the programs here have.
func reckoned(k, a, b uint32) uint32 {
	return map[uint32]func() uint32{
		1:  func() uint32 { return a + b },
		2:  func() uint32 { return a - b },
		4:  func() uint32 { return a / b },
		5:  func() uint32 { return a % b },
		8:  func() uint32 { return a ^ b },
		11: func() uint32 { return map[bool]uint32{true: 1}[a < b] },
	}[k]()
}

// step is what Step has to do and to answer.
func (m *model) step(most int) api.Errno {
	if most < 1 {
		return 2
	}
	if len(m.frames) == 0 {
		return 220
	}
	i := m.next()
	if !slices.Contains(local, i.Op) {
		return 221
	}
	top := &m.frames[0]
	switch i.Op {
	case 1:
		top.Regs[i.A] = i.Imm
		top.Pc++
	case 2:
		top.Regs[i.A] = top.Regs[i.B]
		top.Pc++
	case 3:
		if (i.Imm == 4 || i.Imm == 5) && top.Regs[i.C] == 0 {
			return 150
		}
		top.Regs[i.A] = reckoned(i.Imm, top.Regs[i.B], top.Regs[i.C])
		top.Pc++
	case 4:
		top.Pc = int(i.Imm)
	case 5:
		top.Pc++
		if top.Regs[i.A] > 0 {
			top.Pc = int(i.Imm)
		}
	case 8:
		if len(m.frames) >= most {
			return 222
		}
		top.Pc++
		m.enter(int(i.Imm), i.A, top.Regs[i.B:][:i.C])
	case 9:
		gone := m.frames[0]
		m.frames = m.frames[1:]
		if len(m.frames) == 0 {
			m.result = gone.Regs[i.A]
		} else {
			m.frames[0].Regs[gone.Dest] = gone.Regs[i.A]
		}
	case 19:
		top.Pc++
	}
	return 0
}

// pass is what Pass has to do and to answer.
func (m *model) pass(reg int, word uint32) api.Errno {
	if len(m.frames) == 0 {
		return 220
	}
	if slices.Contains(local, m.next().Op) {
		return 223
	}
	if reg < -1 || reg >= len(m.frames[0].Regs) {
		return 2
	}
	if reg >= 0 {
		m.frames[0].Regs[reg] = word
	}
	m.frames[0].Pc++
	return 0
}

// sameFrame tells if two frames are the same.
func sameFrame(f, g api.Frame) bool {
	return f.Func == g.Func && f.Pc == g.Pc && f.Dest == g.Dest && slices.Equal(f.Regs, g.Regs)
}

// gone are the first few frames that a range goes over, all below 0; it holds their numbers.
func gone(t *testing.T, many int, walk func(func(int, api.Frame) bool)) []api.Frame {
	t.Helper()
	var l []api.Frame
	if many == 0 {
		return l
	}
	for at, f := range walk {
		if at != len(l) {
			t.Errorf("a frame's number is %d, not %d", at, len(l))
		}
		l = append(l, f)
		if len(l) == many {
			break
		}
	}
	return l
}

// holds holds all that a stack tells against a model.
func holds(t *testing.T, s *stack.Stack, m *model) {
	t.Helper()
	if got := gone(t, -1, s.Frames()); !slices.EqualFunc(got, m.frames, sameFrame) {
		t.Fatalf("Frames: %v, not %v", got, m.frames)
	}
	if d, n := s.Depth(), s.Result(); d != len(m.frames) || n != m.result {
		t.Fatalf("Depth %d, Result %d, not %d, %d", d, n, len(m.frames), m.result)
	}
	var i api.Ins
	var at api.Site
	var regs []uint32
	if len(m.frames) > 0 {
		i, at, regs = m.next(), api.Site{Func: m.frames[0].Func, Pc: m.frames[0].Pc}, m.frames[0].Regs
	}
	if ins, there, is := s.Next(); ins != i || there != at || is != (len(m.frames) > 0) {
		t.Fatalf("Next: %v, %v, %v, not %v, %v", ins, there, is, i, at)
	}
	for reg := -2; reg < 19; reg++ {
		want := uint32(0)
		if reg >= 0 && reg < len(regs) {
			want = regs[reg]
		}
		if got := s.Reg(reg); got != want {
			t.Fatalf("Reg(%d) = %d, not %d", reg, got, want)
		}
	}
}

// drawn is a program that may be, by what a source draws: mostly of local instructions.
func drawn(t *testing.T, r *rand.Rand) api.Program {
	t.Helper()
	p := api.Program{Mutexes: r.IntN(3)}
	for range 1 + r.IntN(4) {
		p.Funcs = append(p.Funcs, api.Func{Regs: 1 + r.IntN(5), Code: make([]api.Ins, 1+r.IntN(9))})
	}
	for at := range p.Funcs {
		f := &p.Funcs[at]
		for pc := range f.Code {
			f.Code[pc] = drawnIns(r, p, *f)
		}
		last := &f.Code[len(f.Code)-1]
		if *last = back(r.IntN(f.Regs)); r.IntN(2) == 0 {
			*last = api.Ins{Op: api.OpJump, Imm: uint32(r.IntN(len(f.Code)))}
		}
	}
	if e := program.Check(p); e != api.OK {
		t.Fatalf("drawn: %v", p)
	}
	return p
}

// drawnIns is an instruction that may be in a function, but at its last place.
func drawnIns(r *rand.Rand, p api.Program, f api.Func) api.Ins {
	op := local[r.IntN(len(local))]
	if r.IntN(5) == 0 {
		op = shared[r.IntN(len(shared))]
	}
	if op == 9 && r.IntN(3) > 0 { // returns are rare, or all would soon be at its end
		op = 8
	}
	a, b, c := r.IntN(f.Regs), r.IntN(f.Regs), r.IntN(f.Regs)
	i := api.Ins{Op: op, A: a}
	switch op {
	case 1:
		i.Imm = uint32(r.IntN(4))
	case 2, 6, 7, 17:
		i.B = b
	case 3:
		i.B, i.C, i.Imm = b, c, []uint32{1, 2, 4, 5, 8, 11}[r.IntN(6)]
	case 4:
		i.A, i.Imm = 0, uint32(r.IntN(len(f.Code)))
	case 5:
		i.Imm = uint32(r.IntN(len(f.Code)))
	case 8, 10:
		i.B, i.Imm = b, uint32(r.IntN(len(p.Funcs)))
		i.C = r.IntN(min(f.Regs-b, p.Funcs[i.Imm].Regs) + 1)
		if op == 10 {
			i.A = 0
		}
	case 19:
		i.A = 0
	}
	return i
}
