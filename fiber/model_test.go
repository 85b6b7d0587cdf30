package fiber_test

import (
	"math"
	"math/rand/v2"
	"slices"
	"testing"

	"linesman/api"
	"linesman/fiber"
	"linesman/program"
	"linesman/stack"
)

// local are the Ops whose instructions are local, shared all others, as the chapters have them.
var (
	local  = []api.Op{1, 2, 3, 4, 5, 8, 9, 19}
	shared = []api.Op{6, 7, 10, 11, 12, 13, 14, 15, 16, 17, 18}
)

// huge are numbers that nothing has so many of.
var huge = []int{math.MinInt, math.MinInt + 1, -1 << 32, 1 << 31, 1 << 32, 1<<32 + 1, math.MaxInt - 1, math.MaxInt}

// code is a function of so many registers.
func code(regs int, l ...api.Ins) api.Func {
	return api.Func{Regs: regs, Code: l}
}

// of is a program of functions.
func of(l ...api.Func) api.Program {
	return api.Program{Funcs: l}
}

// back returns a register.
func back(reg int) api.Ins {
	return api.Ins{Op: api.OpReturn, A: reg}
}

// example is the program of the chapter's example.
func example() api.Program {
	return of(code(2, api.Ins{Op: api.OpConst, Imm: 7}, api.Ins{Op: api.OpStore, B: 1}, back(0)))
}

// deep is a program that calls itself as often as its word says.
func deep() api.Program {
	return of(code(2,
		api.Ins{Op: api.OpIf, A: 0, Imm: 2},
		back(0),
		api.Ins{Op: api.OpConst, A: 1, Imm: 1},
		api.Ins{Op: api.OpArith, A: 0, B: 0, C: 1, Imm: uint32(api.ArithSub)},
		api.Ins{Op: api.OpCall, A: 0, B: 0, C: 1},
		back(0),
	))
}

// loop is a program that counts in its register for ever.
func loop() api.Program {
	return of(code(2, api.Ins{Op: api.OpConst, A: 1, Imm: 1}, api.Ins{Op: api.OpArith, C: 1, Imm: uint32(api.ArithAdd)}, api.Ins{Op: api.OpJump, Imm: 1}))
}

// made is a fiber of what may be.
func made(t *testing.T, p api.Program, frames, f int, args ...uint32) *fiber.Fiber {
	t.Helper()
	g, e := fiber.New(p, frames, f, args...)
	if g == nil || e != api.OK {
		t.Fatalf("New(%v, %d, %d, %v): %v, %v", p, frames, f, args, g, e)
	}
	return g
}

// does does what is wanted so many times, none of them refused.
func does(t *testing.T, f *fiber.Fiber, many int) {
	t.Helper()
	for n := range many {
		if e := f.Do(0); e != api.OK {
			t.Fatalf("Do %d: %v", n, e)
		}
	}
}

// ended is a fiber at its end.
func ended(t *testing.T) *fiber.Fiber {
	t.Helper()
	f := made(t, of(code(1, back(0))), 1, 0, 8)
	does(t, f, 1)
	return f
}

// trapped are fibers that want a trap, two frames deep.
func trapped(t *testing.T) map[api.Trap]*fiber.Fiber {
	t.Helper()
	l := map[api.Trap]*fiber.Fiber{}
	for why, i := range map[api.Trap]api.Ins{4: {Op: api.OpArith, Imm: uint32(api.ArithMod)}, 6: {Op: api.OpCall, Imm: 1}} {
		l[why] = made(t, of(code(1, api.Ins{Op: api.OpCall, Imm: 1}, back(0)), code(1, i, back(0))), 2, 0)
		does(t, l[why], 1)
	}
	return l
}

// model is a fiber as the chapters say it: the top is the first of its frames.
type model struct {
	p       api.Program
	allowed int
	frames  []api.Frame
	result  uint32
}

// modelled is one at a function's beginning.
func modelled(p api.Program, allowed, f int, args ...uint32) *model {
	m := &model{p: p, allowed: allowed}
	m.enter(f, 0, args)
	return m
}

func (m *model) enter(f, dest int, args []uint32) {
	regs := make([]uint32, m.p.Funcs[f].Regs)
	copy(regs, args)
	m.frames = slices.Insert(m.frames, 0, api.Frame{Func: f, Dest: dest, Regs: regs})
}

// copied is another one with the same frames.
func (m *model) copied() *model {
	other := &model{p: m.p, allowed: m.allowed, result: m.result}
	for _, f := range m.frames {
		f.Regs = append([]uint32{}, f.Regs...)
		other.frames = append(other.frames, f)
	}
	return other
}

// next is the instruction at the top.
func (m *model) next() api.Ins {
	return m.p.Funcs[m.frames[0].Func].Code[m.frames[0].Pc]
}

// want is what Want has to tell; none at the end.
func (m *model) want() (api.Want, bool) {
	if len(m.frames) == 0 {
		return api.Want{}, false
	}
	top, i := m.frames[0], m.next()
	w := api.Want{Kind: 1, Site: api.Site{Func: top.Func, Pc: top.Pc}}
	switch i.Op {
	case 3:
		if (i.Imm == 4 || i.Imm == 5) && top.Regs[i.C] == 0 {
			w.Kind, w.Trap = 14, 4
		}
	case 6:
		w.Kind, w.Addr = 2, top.Regs[i.B]
	case 7:
		w.Kind, w.Addr, w.Word = 3, top.Regs[i.A], top.Regs[i.B]
	case 8:
		if len(m.frames) >= m.allowed {
			w.Kind, w.Trap = 14, 6
		}
	case 9:
		if len(m.frames) == 1 {
			w.Kind = 13
		}
	case 10:
		w.Kind, w.Func, w.Args = 4, int(i.Imm), slices.Clone(top.Regs[i.B:][:i.C])
	case 11, 12, 13, 14, 15, 16, 18:
		w.Kind = map[api.Op]api.EvKind{11: 5, 12: 6, 13: 7, 14: 8, 15: 9, 16: 10, 18: 12}[i.Op]
		w.Obj = top.Regs[i.A]
	case 17:
		w.Kind, w.Obj, w.N = 11, top.Regs[i.A], int64(top.Regs[i.B])
		if w.N > 2147483647 {
			w.N -= 4294967296
		}
	}
	return w, true
}

// reckoned are the kinds that do not refuse.
func reckoned(k, a, b uint32) uint32 {
	one := map[bool]uint32{true: 1}
	return map[uint32]func() uint32{
		1:  func() uint32 { return a + b },
		2:  func() uint32 { return a - b },
		3:  func() uint32 { return a * b },
		4:  func() uint32 { return a / b },
		5:  func() uint32 { return a % b },
		6:  func() uint32 { return a & b },
		7:  func() uint32 { return a | b },
		8:  func() uint32 { return a ^ b },
		9:  func() uint32 { return a << (b % 32) },
		10: func() uint32 { return a >> (b % 32) },
		11: func() uint32 { return one[a < b] },
		12: func() uint32 { return one[a == b] },
	}[k]()
}

// do is what Do has to do and to answer.
func (m *model) do(word uint32) api.Errno {
	w, is := m.want()
	if !is {
		return 220
	}
	if w.Kind == 14 {
		return 270
	}
	top, i := &m.frames[0], m.next()
	top.Pc++
	switch i.Op {
	case 1:
		top.Regs[i.A] = i.Imm
	case 2:
		top.Regs[i.A] = top.Regs[i.B]
	case 3:
		top.Regs[i.A] = reckoned(i.Imm, top.Regs[i.B], top.Regs[i.C])
	case 4:
		top.Pc = int(i.Imm)
	case 5:
		if top.Regs[i.A] > 0 {
			top.Pc = int(i.Imm)
		}
	case 6:
		top.Regs[i.A] = word
	case 8:
		m.enter(int(i.Imm), i.A, top.Regs[i.B:][:i.C])
	case 9:
		gone := m.frames[0]
		m.frames = m.frames[1:]
		if len(m.frames) == 0 {
			m.result = gone.Regs[i.A]
		} else {
			m.frames[0].Regs[gone.Dest] = gone.Regs[i.A]
		}
	}
	return 0
}

// run is what Run has to do and to answer.
func (m *model) run(most int) (int, api.Errno) {
	if most < 0 {
		return 0, 2
	}
	many := 0
	for many < most {
		if w, _ := m.want(); w.Kind != 1 {
			break
		}
		m.do(0)
		many++
	}
	return many, 0
}

// ahead is what Ahead has to go over.
func (m *model) ahead(most int) []api.Want {
	var l []api.Want
	going := m.copied()
	for len(l) < most {
		w, is := going.want()
		if !is {
			break
		}
		if l = append(l, w); going.do(0) != 0 {
			break
		}
	}
	return l
}

// sameFrame tells if two frames are the same.
func sameFrame(f, g api.Frame) bool {
	return f.Func == g.Func && f.Pc == g.Pc && f.Dest == g.Dest && slices.Equal(f.Regs, g.Regs)
}

// sameWant tells if two wants are the same, part by part.
func sameWant(a, b api.Want) bool {
	if !slices.Equal(a.Args, b.Args) {
		return false
	}
	return a.Kind == b.Kind && a.Site == b.Site && a.Addr == b.Addr && a.Word == b.Word && a.Obj == b.Obj && a.N == b.N && a.Func == b.Func && a.Trap == b.Trap
}

// frames are those of a stack, from the top down.
func frames(s *stack.Stack) []api.Frame {
	var l []api.Frame
	for _, f := range s.Frames() {
		l = append(l, f)
	}
	return l
}

// gone are the first few wants that a range goes over, all below 0; it holds their numbers.
func gone(t *testing.T, many int, walk func(func(int, api.Want) bool)) []api.Want {
	t.Helper()
	var l []api.Want
	if many == 0 {
		return l
	}
	for at, w := range walk {
		if at != len(l) {
			t.Errorf("a want's number is %d, not %d", at, len(l))
		}
		l = append(l, w)
		if len(l) == many {
			break
		}
	}
	return l
}

// holds holds all that a fiber tells against a model.
func holds(t *testing.T, f *fiber.Fiber, m *model) {
	t.Helper()
	w, is := f.Want()
	if want, there := m.want(); !sameWant(w, want) || is != there {
		t.Fatalf("Want: %v, %v, not %v, %v", w, is, want, there)
	}
	if f.Ended() != (len(m.frames) == 0) {
		t.Fatalf("Ended: %v, of %v", f.Ended(), m.frames)
	}
	s := f.Stack()
	if got := frames(s); !slices.EqualFunc(got, m.frames, sameFrame) || s.Result() != m.result {
		t.Fatalf("Stack: %v, %d, not %v, %d", got, s.Result(), m.frames, m.result)
	}
}

// drawn is a program that may be, by what a source draws: about half of it is local.
func drawn(t *testing.T, r *rand.Rand) api.Program {
	t.Helper()
	p := api.Program{Mutexes: r.IntN(3), Groups: r.IntN(3)}
	for range 1 + r.IntN(4) {
		p.Funcs = append(p.Funcs, api.Func{Regs: 1 + r.IntN(5), Code: make([]api.Ins, 1+r.IntN(9))})
	}
	for at := range p.Funcs {
		f := &p.Funcs[at]
		for pc := range f.Code {
			f.Code[pc] = drawnIns(r, p, *f)
		}
		last := &f.Code[len(f.Code)-1]
		if *last = back(r.IntN(f.Regs)); r.IntN(2) == 0 {
			*last = api.Ins{Op: api.OpJump, Imm: uint32(r.IntN(len(f.Code)))}
		}
	}
	if e := program.Check(p); e != api.OK {
		t.Fatalf("drawn: %v", p)
	}
	return p
}

// drawnIns is an instruction that may be in a function, but at its last place.
func drawnIns(r *rand.Rand, p api.Program, f api.Func) api.Ins {
	op := local[r.IntN(len(local))]
	if r.IntN(2) == 0 {
		op = shared[r.IntN(len(shared))]
	}
	if op == 9 && r.IntN(3) > 0 { // returns are rare, or all would soon be at its end
		op = 8
	}
	a, b, c := r.IntN(f.Regs), r.IntN(f.Regs), r.IntN(f.Regs)
	i := api.Ins{Op: op, A: a}
	switch op {
	case 1:
		i.Imm = []uint32{0, 1, 2, 3, 1<<31 - 1, 1 << 31, math.MaxUint32}[r.IntN(7)]
	case 2, 6, 7, 17:
		i.B = b
	case 3:
		i.B, i.C, i.Imm = b, c, uint32(1+r.IntN(12))
		if r.IntN(2) == 0 { // many that may be refused
			i.Imm = 4 + i.Imm%2
		}
	case 4:
		i.A, i.Imm = 0, uint32(r.IntN(len(f.Code)))
	case 5:
		i.Imm = uint32(r.IntN(len(f.Code)))
	case 8, 10:
		i.B, i.Imm = b, uint32(r.IntN(len(p.Funcs)))
		i.C = r.IntN(min(f.Regs-b, p.Funcs[i.Imm].Regs) + 1)
		if op == 10 {
			i.A = 0
		}
	case 19:
		i.A = 0
	}
	return i
}
