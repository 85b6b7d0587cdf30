package stack_test

import (
	"math"
	"math/rand/v2"
	"slices"
	"testing"

	"linesman/api"
	"linesman/instr"
	"linesman/stack"
)

func TestTheChaptersExample(t *testing.T) { // P12.1, P12.2
	s := made(t, sum(), 0, 0, 2, 3)
	if e := s.Step(1); e != api.ErrDeep {
		t.Errorf("Step(1): %v", e)
	}
	if e := s.Step(2); e != api.OK || s.Depth() != 2 || s.Reg(1) != 3 {
		t.Errorf("Step(2): %v, Depth %d, Reg(1) %d", e, s.Depth(), s.Reg(1))
	}
	if e, f := s.Step(2), s.Step(2); e != api.OK || f != api.OK || s.Reg(0) != 5 {
		t.Errorf("Step: %v, %v, Reg(0) %d", e, f, s.Reg(0))
	}
	if e := s.Step(2); e != api.OK || s.Depth() != 0 || s.Result() != 5 {
		t.Errorf("Step: %v, Depth %d, Result %d", e, s.Depth(), s.Result())
	}
}

func TestALocalStep(t *testing.T) { // P12.1
	for name, c := range map[string]struct {
		i    api.Ins
		pc   int
		regs []uint32
	}{
		"const":           {api.Ins{Op: api.OpConst, A: 2, Imm: math.MaxUint32}, 2, []uint32{7, 0, math.MaxUint32, 9}},
		"const 0":         {api.Ins{Op: api.OpConst, A: 0}, 2, []uint32{0, 0, 5, 9}},
		"move":            {api.Ins{Op: api.OpMove, A: 1, B: 3}, 2, []uint32{7, 9, 5, 9}},
		"move to itself":  {api.Ins{Op: api.OpMove, A: 3, B: 3}, 2, []uint32{7, 0, 5, 9}},
		"sub":             {api.Ins{Op: api.OpArith, A: 3, B: 2, C: 0, Imm: uint32(api.ArithSub)}, 2, []uint32{7, 0, 5, math.MaxUint32 - 1}},
		"sub onto itself": {api.Ins{Op: api.OpArith, A: 2, B: 0, C: 2, Imm: uint32(api.ArithSub)}, 2, []uint32{7, 0, 2, 9}},
		"div":             {api.Ins{Op: api.OpArith, A: 1, B: 3, C: 2, Imm: uint32(api.ArithDiv)}, 2, []uint32{7, 1, 5, 9}},
		"div of 0":        {api.Ins{Op: api.OpArith, A: 0, B: 1, C: 2, Imm: uint32(api.ArithDiv)}, 2, []uint32{0, 0, 5, 9}},
		"equal":           {api.Ins{Op: api.OpArith, A: 0, B: 1, C: 1, Imm: uint32(api.ArithEqual)}, 2, []uint32{1, 0, 5, 9}},
		"jump ahead":      {api.Ins{Op: api.OpJump, Imm: 3}, 3, []uint32{7, 0, 5, 9}},
		"jump back":       {api.Ins{Op: api.OpJump, Imm: 0}, 0, []uint32{7, 0, 5, 9}},
		"jump to itself":  {api.Ins{Op: api.OpJump, Imm: 1}, 1, []uint32{7, 0, 5, 9}},
		"if so":           {api.Ins{Op: api.OpIf, A: 0, Imm: 3}, 3, []uint32{7, 0, 5, 9}},
		"if so, back":     {api.Ins{Op: api.OpIf, A: 3, Imm: 0}, 0, []uint32{7, 0, 5, 9}},
		"if not":          {api.Ins{Op: api.OpIf, A: 1, Imm: 0}, 2, []uint32{7, 0, 5, 9}},
		"yield":           {api.Ins{Op: api.OpYield}, 2, []uint32{7, 0, 5, 9}},
	} {
		yield := api.Ins{Op: api.OpYield}
		s := made(t, of(code(4, yield, c.i, yield, back(0))), 0, 7, 0, 5, 9)
		steps(t, s, 1)
		if e := s.Step(1); e != api.OK {
			t.Errorf("%s: %v", name, e)
		}
		want := api.Frame{Pc: c.pc, Regs: c.regs}
		if got := gone(t, -1, s.Frames()); len(got) != 1 || !sameFrame(got[0], want) {
			t.Errorf("%s: %v, not %v", name, got, want)
		}
	}
}

func TestACallAndItsReturn(t *testing.T) { // P12.1
	p := of(
		code(4, api.Ins{Op: api.OpYield}, api.Ins{Op: api.OpCall, A: 3, B: 1, C: 2, Imm: 2}, back(3)),
		code(1, back(0)),
		code(5, api.Ins{Op: api.OpConst, A: 4, Imm: 77}, back(4)),
	)
	s := made(t, p, 0, 10, 11, 12, 13)
	steps(t, s, 2)
	below := api.Frame{Func: 0, Pc: 2, Regs: []uint32{10, 11, 12, 13}}
	want := []api.Frame{{Func: 2, Dest: 3, Regs: []uint32{11, 12, 0, 0, 0}}, below}
	if got := gone(t, -1, s.Frames()); !slices.EqualFunc(got, want, sameFrame) {
		t.Errorf("called: %v", got)
	}
	steps(t, s, 1)
	want[0].Pc, want[0].Regs = 1, []uint32{11, 12, 0, 0, 77}
	if got := gone(t, -1, s.Frames()); !slices.EqualFunc(got, want, sameFrame) {
		t.Errorf("in it: %v", got)
	}
	steps(t, s, 1)
	below.Regs = []uint32{10, 11, 12, 77}
	if got := gone(t, -1, s.Frames()); len(got) != 1 || !sameFrame(got[0], below) {
		t.Errorf("returned: %v", got)
	}
	steps(t, s, 1)
	if s.Depth() != 0 || s.Result() != 77 || gone(t, -1, s.Frames()) != nil {
		t.Errorf("at the end: %d, %d", s.Depth(), s.Result())
	}
}

func TestCallsAtTheEdges(t *testing.T) { // P12.1
	words := []uint32{1, 2, 3, 4, 5, 6, 7, 8, 9, 10, 11, 12, 13, 14, 15, 16}
	for _, c := range []struct {
		i    api.Ins
		regs []uint32
	}{
		{api.Ins{Op: api.OpCall, A: 15, B: 0, C: 16, Imm: 31}, words},
		{api.Ins{Op: api.OpCall, A: 0, B: 15, C: 1, Imm: 31}, append([]uint32{16}, make([]uint32, 15)...)},
		{api.Ins{Op: api.OpCall, A: 7, B: 15, C: 0, Imm: 31}, make([]uint32, 16)},
		{api.Ins{Op: api.OpCall, A: 8, B: 0, C: 0, Imm: 0}, make([]uint32, 16)},
		{api.Ins{Op: api.OpCall, A: 9, B: 3, C: 2, Imm: 0}, append([]uint32{4, 5}, make([]uint32, 14)...)},
	} {
		p := full()
		p.Funcs[30].Code[0] = c.i
		s := made(t, p, 30, words...)
		steps(t, s, 1)
		want := []api.Frame{{Func: int(c.i.Imm), Dest: c.i.A, Regs: c.regs}, {Func: 30, Pc: 1, Regs: words}}
		if got := gone(t, -1, s.Frames()); !slices.EqualFunc(got, want, sameFrame) {
			t.Errorf("%v: %v", c.i, got)
		}
	}
	// A register that gets what is returned is one of those that were handed on, too.
	s := made(t, of(code(2, api.Ins{Op: api.OpCall, C: 2, Imm: 1}, back(0)), code(2, back(1))), 0, 5, 6)
	steps(t, s, 2)
	if s.Reg(0) != 6 || s.Reg(1) != 6 {
		t.Errorf("returned: %d, %d", s.Reg(0), s.Reg(1))
	}
}

func TestTheCallersWordsAreItsOwn(t *testing.T) { // P12.1, P12.4
	p := of(code(2, api.Ins{Op: api.OpCall, A: 1, C: 1, Imm: 1}, back(0)), code(1, api.Ins{Op: api.OpConst, Imm: 9}, back(0)))
	s := made(t, p, 0, 5)
	steps(t, s, 2)
	if l := gone(t, -1, s.Frames()); l[0].Regs[0] != 9 || l[1].Regs[0] != 5 {
		t.Errorf("%v", l)
	}
	// One that is entered where another one was begins with noughts.
	p = of(code(1, api.Ins{Op: api.OpCall, Imm: 1}, api.Ins{Op: api.OpCall, Imm: 1}, back(0)), code(2, api.Ins{Op: api.OpConst, A: 1, Imm: 9}, back(1)))
	s = made(t, p, 0)
	steps(t, s, 4)
	if l := gone(t, -1, s.Frames()); len(l) != 2 || l[0].Regs[1] != 0 || l[1].Regs[0] != 9 {
		t.Errorf("%v", l)
	}
}

// deep is a program that calls itself as often as its word says, and counts how often it did.
func deep() api.Program {
	one, less, more := 1, uint32(api.ArithSub), uint32(api.ArithAdd)
	return of(code(2,
		api.Ins{Op: api.OpIf, A: 0, Imm: 2},
		back(0),
		api.Ins{Op: api.OpConst, A: one, Imm: 1},
		api.Ins{Op: api.OpArith, A: 0, B: 0, C: one, Imm: less},
		api.Ins{Op: api.OpCall, A: 0, B: 0, C: 1},
		api.Ins{Op: api.OpArith, A: 0, B: 0, C: one, Imm: more},
		back(0),
	))
}

func TestHowManyFramesAreAllowed(t *testing.T) { // P12.1
	for _, most := range []int{1, 2, 3, 255, 256, 257} {
		s := made(t, deep(), 0, 1<<20)
		e := on(t, s, most, func() {})
		if i, _, _ := s.Next(); e != api.ErrDeep || s.Depth() != most || i.Op != api.OpCall {
			t.Errorf("of %d: %v at depth %d, ahead of %v", most, e, s.Depth(), i)
		}
		for fewer := 1; fewer <= most; fewer += most/4 + 1 {
			if e := s.Step(fewer); e != api.ErrDeep {
				t.Errorf("of %d at depth %d: %v", fewer, s.Depth(), e)
			}
		}
		if e := s.Step(most + 1); e != api.OK || s.Depth() != most+1 {
			t.Errorf("of %d, one more: %v, %d", most, e, s.Depth())
		}
		// What calls nothing goes on, however few are allowed.
		if e := s.Step(1); e != api.OK {
			t.Errorf("an if at depth %d: %v", s.Depth(), e)
		}
	}
}

func TestAReturnAtDepthGoesOnHoweverFewAreAllowed(t *testing.T) { // P12.1
	s := made(t, sum(), 0)
	steps(t, s, 2)
	if e := s.Step(1); e != api.OK || s.Depth() != 1 {
		t.Errorf("%v, %d", e, s.Depth())
	}
}

func TestManyFrames(t *testing.T) { // P12.1, P12.2
	const many = 100000
	s := made(t, deep(), 0, many)
	greatest, all := 0, 0
	e := on(t, s, many+1, func() {
		greatest = max(greatest, s.Depth())
		all++
	})
	if e != api.ErrEnded || greatest != many+1 || all != 1+6*many+2 || s.Depth() != 0 || s.Result() != many {
		t.Errorf("%v: %d deep, %d steps, then %d: %d", e, greatest, all, s.Depth(), s.Result())
	}
}

// refused holds that a call is refused, and changes nothing.
func refused(t *testing.T, name string, s *stack.Stack, want api.Errno, call func() api.Errno) {
	t.Helper()
	kept := s.Copy()
	frames := gone(t, -1, s.Frames())
	if e := call(); e != want {
		t.Errorf("%s: %v, not %v", name, e, want)
	}
	if !stack.Same(s, kept) || !slices.EqualFunc(gone(t, -1, s.Frames()), frames, sameFrame) || s.Result() != kept.Result() {
		t.Errorf("%s has changed something", name)
	}
}

// wants is a stack whose next instruction has this Op, two frames deep.
func wants(t *testing.T, op api.Op) *stack.Stack {
	t.Helper()
	i := api.Ins{Op: op}
	if op == api.OpArith {
		i.Imm = uint32(api.ArithDiv)
	}
	s := made(t, of(code(3, api.Ins{Op: api.OpCall, A: 2, Imm: 1}, back(0)), code(2, i, back(0))), 0)
	steps(t, s, 1)
	return s
}

func TestStepRefuses(t *testing.T) { // P12.1, P12.4
	for _, most := range append([]int{-2, -1, 0}, huge[:3]...) {
		// Frames that may not be go ahead of all that the stack is.
		for op := api.OpConst; op <= api.OpYield; op++ {
			s := wants(t, op)
			refused(t, "Step", s, api.ErrArg, func() api.Errno { return s.Step(most) })
		}
		s := made(t, of(code(1, back(0))), 0)
		steps(t, s, 1)
		refused(t, "Step at the end", s, api.ErrArg, func() api.Errno { return s.Step(most) })
	}
	for _, most := range []int{1, 2, 256, math.MaxInt} {
		s := made(t, of(code(1, back(0))), 0, 8)
		steps(t, s, 1)
		refused(t, "Step at the end", s, api.ErrEnded, func() api.Errno { return s.Step(most) })
		for _, op := range shared {
			s := wants(t, op)
			refused(t, "Step of what is shared", s, api.ErrShared, func() api.Errno { return s.Step(most) })
		}
		s = wants(t, api.OpArith)
		refused(t, "Step of a division by 0", s, api.ErrZero, func() api.Errno { return s.Step(most) })
	}
	s := made(t, of(code(2, api.Ins{Op: api.OpArith, A: 1, Imm: uint32(api.ArithMod)}, back(0))), 0, 0, 4)
	refused(t, "Step of a mod by 0", s, api.ErrZero, func() api.Errno { return s.Step(1) })
	s = wants(t, api.OpCall)
	refused(t, "Step of a call", s, api.ErrDeep, func() api.Errno { return s.Step(2) })
	refused(t, "Step of a call", s, api.ErrDeep, func() api.Errno { return s.Step(1) })
}

func TestWhatIsLocalIsWhatLayer8Says(t *testing.T) { // P12.1
	for op := api.OpConst; op <= api.OpYield; op++ {
		s := wants(t, op)
		i, _, _ := s.Next()
		if i.Op != op || instr.Local(i) != slices.Contains(local, op) {
			t.Errorf("%v: %v", i, instr.Local(i))
		}
		if is := s.Copy().Step(9) != api.ErrShared; is != instr.Local(i) {
			t.Errorf("Step of %v", i)
		}
		if is := s.Copy().Pass(-1, 0) == api.ErrLocal; is != instr.Local(i) {
			t.Errorf("Pass of %v", i)
		}
	}
}

func TestPass(t *testing.T) { // P12.1
	for _, op := range shared {
		for reg := -1; reg < 3; reg++ {
			p := of(code(3, api.Ins{Op: api.OpCall, A: 2, B: 0, C: 3, Imm: 1}, back(0)), code(3, api.Ins{Op: op}, back(0)))
			s := made(t, p, 0, 4, 5, 6)
			steps(t, s, 1)
			regs := []uint32{4, 5, 6}
			if reg >= 0 {
				regs[reg] = math.MaxUint32 - 1
			}
			want := []api.Frame{{Func: 1, Pc: 1, Dest: 2, Regs: regs}, {Pc: 1, Regs: []uint32{4, 5, 6}}}
			if e := s.Pass(reg, math.MaxUint32-1); e != api.OK || !slices.EqualFunc(gone(t, -1, s.Frames()), want, sameFrame) {
				t.Errorf("Pass(%d) of Op %d: %v, %v", reg, op, e, gone(t, -1, s.Frames()))
			}
		}
	}
	load := api.Ins{Op: api.OpLoad}
	s := made(t, of(code(16, load, load, back(0))), 0, 1)
	if e, f := s.Pass(15, 3), s.Pass(0, 0); e != api.OK || f != api.OK || s.Reg(15) != 3 || s.Reg(0) != 0 {
		t.Errorf("%v, %v: %d, %d", e, f, s.Reg(15), s.Reg(0))
	}
}

func TestPassRefuses(t *testing.T) { // P12.1, P12.4
	// The frame below has a register more than the top, and that is none of the top's.
	none := append([]int{-3, -2, 2, 3, 15, 16}, huge...)
	for _, reg := range none {
		for _, op := range shared {
			s := wants(t, op)
			refused(t, "Pass to no register", s, api.ErrArg, func() api.Errno { return s.Pass(reg, 7) })
		}
	}
	for _, reg := range append(none, -1, 0, 1) {
		for _, op := range local {
			s := wants(t, op)
			refused(t, "Pass of what is local", s, api.ErrLocal, func() api.Errno { return s.Pass(reg, 7) })
		}
		s := made(t, of(code(1, back(0))), 0, 8)
		steps(t, s, 1)
		refused(t, "Pass at the end", s, api.ErrEnded, func() api.Errno { return s.Pass(reg, 7) })
	}
}

// act does something to a stack and its model that a source draws, and holds the answers; it tells if it was done.
func act(t *testing.T, r *rand.Rand, s *stack.Stack, m *model) bool {
	t.Helper()
	if r.IntN(4) == 0 || len(m.frames) > 0 && slices.Contains(shared, m.next().Op) && r.IntN(3) > 0 {
		reg, word := r.IntN(8)-2, uint32(r.IntN(4))
		e, want := s.Pass(reg, word), m.pass(reg, word)
		if e != want {
			t.Fatalf("Pass(%d, %d): %v, not %v", reg, word, e, want)
		}
		return e == api.OK
	}
	most := r.IntN(9)
	e, want := s.Step(most), m.step(most)
	if e != want {
		t.Fatalf("Step(%d): %v, not %v", most, e, want)
	}
	return e == api.OK
}

func TestWhateverIsDone(t *testing.T) { // P12.1, P12.2, P12.3
	r := rand.New(rand.NewPCG(12, 1))
	done, ended, deepest := 0, 0, 0
	for range 1500 {
		p := drawn(t, r)
		f := r.IntN(len(p.Funcs))
		args := []uint32{1, 2, 0, 3, 1}[:r.IntN(p.Funcs[f].Regs+1)]
		s, m := made(t, p, f, args...), modelled(p, f, args...)
		other, n := s.Copy(), m.copied()
		for turn := range 60 {
			holds(t, s, m)
			if turn%16 == 5 {
				other, n = s.Copy(), m.copied()
			}
			if act(t, r, s, m) {
				done++
			}
			deepest = max(deepest, len(m.frames))
		}
		if len(m.frames) == 0 {
			ended++
		}
		// One that was copied goes on from where it was.
		for range 20 {
			holds(t, other, n)
			act(t, r, other, n)
		}
		holds(t, s, m)
	}
	if done < 20000 || ended < 100 || deepest < 5 {
		t.Errorf("%d done, %d ended, %d deep: it says too little", done, ended, deepest)
	}
}

func TestWhatAStepChanges(t *testing.T) { // P12.4
	r := rand.New(rand.NewPCG(12, 4))
	for range 500 {
		p := drawn(t, r)
		s := made(t, p, 0)
		for range 40 {
			was := gone(t, -1, s.Frames())
			i, at, is := s.Next()
			if is && (at.Pc < 0 || at.Pc >= len(p.Funcs[at.Func].Code)) {
				t.Fatalf("%v is no place", at)
			}
			e := s.Step(1 + r.IntN(8))
			now := gone(t, -1, s.Frames())
			up := len(now) - len(was)
			if e != api.OK && !slices.EqualFunc(was, now, sameFrame) || up < -1 || up > 1 {
				t.Fatalf("%v: %v, then %v", e, was, now)
			}
			// Below the top all stays as it was, but for what a return hands down.
			least := min(len(was), len(now)) - 1
			if least > 0 && !slices.EqualFunc(was[len(was)-least:], now[len(now)-least:], sameFrame) {
				t.Fatalf("%v: %v, then %v", i, was, now)
			}
			if up == 1 && !slices.Equal(was[0].Regs, now[1].Regs) || up == -1 && len(now) > 0 && apart(was[1].Regs, now[0].Regs) > 1 {
				t.Fatalf("%v: %v, then %v", i, was, now)
			}
			if e == api.ErrShared {
				s.Pass(-1, 0)
			}
		}
	}
}

// apart tells in how many words two lists of as many differ.
func apart(a, b []uint32) int {
	many := 0
	for at := range a {
		if a[at] != b[at] {
			many++
		}
	}
	return many
}
