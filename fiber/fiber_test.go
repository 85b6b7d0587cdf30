package fiber_test

import (
	"math"
	"slices"
	"testing"

	"linesman/api"
	"linesman/fiber"
	"linesman/program"
	"linesman/stack"
)

func TestTheChaptersExample(t *testing.T) { // P17.1, P17.3
	f := made(t, example(), 1, 0, 0, 3)
	for at, want := range []api.Want{
		{Kind: api.EvStep},
		{Kind: api.EvStore, Site: api.Site{Pc: 1}, Addr: 7, Word: 3},
		{Kind: api.EvEnd, Site: api.Site{Pc: 2}},
	} {
		if w, is := f.Want(); !is || !sameWant(w, want) || f.Ended() {
			t.Errorf("Want %d: %v, %v, not %v", at, w, is, want)
		}
		if e := f.Do(0); e != api.OK {
			t.Errorf("Do %d: %v", at, e)
		}
	}
	if w, is := f.Want(); is || !sameWant(w, api.Want{}) || !f.Ended() {
		t.Errorf("at the end: %v, %v, %v", w, is, f.Ended())
	}
}

func TestNew(t *testing.T) { // P17.1
	p := of(code(1, back(0)), code(3, api.Ins{Op: api.OpYield}, back(2)), code(16, back(15)))
	words := []uint32{math.MaxUint32, 7, 0, 9, 1, 2, 3, 4, 5, 6, 7, 8, 9, 10, 11, 12}
	for _, allowed := range []int{1, 2, 255, 256} {
		for f := range p.Funcs {
			for many := range p.Funcs[f].Regs + 1 {
				g := made(t, p, allowed, f, words[:many]...)
				holds(t, g, modelled(p, allowed, f, words[:many]...))
				s, e := stack.New(p, f, words[:many]...)
				if e != api.OK || !stack.Same(g.Stack(), s) {
					t.Errorf("New(%d, %d, %v): not layer 12's", allowed, f, words[:many])
				}
			}
		}
	}
}

func TestNewRefuses(t *testing.T) { // P17.1
	none := func(name string, want api.Errno, p api.Program, frames, f int, args ...uint32) {
		t.Helper()
		if g, e := fiber.New(p, frames, f, args...); g != nil || e != want {
			t.Errorf("%s: New(%v, %d, %d, %v): %v, %v", name, p, frames, f, args, g, e)
		}
	}
	bad := []api.Program{{}, of(code(0, back(0))), of(code(17, back(0))), of(code(1)), of(code(1, back(1))), of(code(1, back(0), api.Ins{Op: api.OpYield}))}
	bad = append(bad, of(slices.Repeat([]api.Func{code(1, back(0))}, 33)...), api.Program{Funcs: example().Funcs, Mutexes: 65}, api.Program{Funcs: example().Funcs, Groups: -1})
	few := append([]int{-256, -2, -1, 0, 257, 258, 512, 65536}, huge...)
	for _, frames := range few {
		none("frames", api.ErrArg, example(), frames, 0, 1)
		// That frames may not be allowed goes ahead of what the program has not.
		none("frames", api.ErrArg, example(), frames, 1)
		none("frames", api.ErrArg, example(), frames, 0, 1, 2, 3)
		none("frames", api.ErrArg, bad[0], frames, 0)
	}
	for _, frames := range []int{1, 256} {
		for _, p := range bad {
			for _, f := range []int{-1, 0, 40} {
				none("a program", api.ErrArg, p, frames, f)
				none("a program", api.ErrArg, p, frames, f, make([]uint32, 20)...)
			}
		}
		for _, f := range append([]int{-2, -1, 1, 2, 31, 32}, huge...) {
			none("a function", api.ErrRange, example(), frames, f)
			none("a function", api.ErrRange, example(), frames, f, 1, 2, 3)
		}
		for _, many := range []int{3, 4, 16, 17, 1 << 16} {
			none("words", api.ErrRange, example(), frames, 0, make([]uint32, many)...)
		}
	}
}

func TestWhatIsHandedInIsNotKept(t *testing.T) { // P17.1
	p := example()
	p.Funcs = append(p.Funcs, code(9, back(0)))[:1]
	args := []uint32{1, 2, 3, 4}
	f := made(t, p, 1, 0, args[:2]...)
	kept := f.Copy()
	does(t, f, 3)
	if !program.Same(p, example()) || p.Funcs[:2][1].Regs != 9 || !slices.Equal(args, []uint32{1, 2, 3, 4}) {
		t.Errorf("%v, %v", p, args)
	}
	args[0], args[1] = 50, 60
	p.Funcs[0].Regs = 1
	p.Funcs[0].Code[1] = api.Ins{}
	p.Funcs[0].Code = p.Funcs[0].Code[:0]
	m := modelled(example(), 1, 0, 1, 2)
	for range 3 {
		holds(t, kept, m)
		does(t, kept, 1)
		m.do(0)
	}
	holds(t, kept, m)
}

func TestStack(t *testing.T) { // P17.3
	f, m := made(t, deep(), 256, 0, 4), modelled(deep(), 256, 0, 4)
	var kept []*stack.Stack
	for !f.Ended() {
		s, other := f.Stack(), f.Stack()
		if s == other || !stack.Same(s, other) {
			t.Fatalf("Stack: %v, %v", s, other)
		}
		// What is done to one that was told is done to none else.
		if e := s.Step(300); e != api.OK {
			t.Fatalf("Step: %v", e)
		}
		holds(t, f, m)
		if !stack.Same(other, f.Stack()) {
			t.Fatalf("a step of a copy moves another one")
		}
		kept = append(kept, other)
		does(t, f, 1)
		m.do(0)
		if !stack.Same(s, f.Stack()) {
			t.Fatalf("Do is not the local step")
		}
	}
	holds(t, f, m)
	if s := f.Stack(); s.Depth() != 0 || s.Result() != m.result {
		t.Errorf("at the end: %d, %d", s.Depth(), s.Result())
	}
	again := made(t, deep(), 256, 0, 4)
	for at, s := range kept {
		if !stack.Same(s, again.Stack()) {
			t.Errorf("stack %d has gone on", at)
		}
		does(t, again, 1)
	}
}

func TestCopy(t *testing.T) { // P17.3
	f, m := made(t, example(), 3, 0, 1, 2), modelled(example(), 3, 0, 1, 2)
	for range 4 {
		one, n := f.Copy(), m.copied()
		if one == f {
			t.Fatalf("Copy is the same one")
		}
		for !one.Ended() {
			does(t, one, 1)
			n.do(0)
			holds(t, one, n)
			holds(t, f, m)
		}
		other, n := f.Copy(), m.copied()
		if f.Ended() {
			holds(t, other, n)
			break
		}
		does(t, f, 1)
		m.do(0)
		holds(t, f, m)
		holds(t, other, n)
	}
	// As many frames are allowed to a copy.
	for allowed := 1; allowed < 5; allowed++ {
		f := made(t, deep(), allowed, 0, 100).Copy()
		f.Run(1000)
		if w, _ := f.Copy().Want(); w.Trap != api.TrapStack || f.Stack().Depth() != allowed {
			t.Errorf("of %d: %v at depth %d", allowed, w, f.Stack().Depth())
		}
	}
}

func TestNoFiber(t *testing.T) { // P17.1, P17.2, P17.3
	for name, f := range map[string]*fiber.Fiber{"nil": nil, "zero": {}} {
		if w, is := f.Want(); is || !sameWant(w, api.Want{}) || w.Args != nil {
			t.Errorf("%s: Want: %v, %v", name, w, is)
		}
		if e := f.Do(1); e != api.ErrNil {
			t.Errorf("%s: Do: %v", name, e)
		}
		for _, most := range append([]int{-1, 0, 1}, huge...) {
			if many, e := f.Run(most); many != 0 || e != api.ErrNil {
				t.Errorf("%s: Run(%d): %d, %v", name, most, many, e)
			}
			if walk := fiber.Ahead(f, most); walk == nil || gone(t, -1, walk) != nil {
				t.Errorf("%s: Ahead(%d)", name, most)
			}
		}
		if f.Stack() != nil || f.Ended() || f.Copy() != nil {
			t.Errorf("%s: %v, %v, %v", name, f.Stack(), f.Ended(), f.Copy())
		}
	}
}

// whole is a want of which no part is 0.
func whole() api.Want {
	return api.Want{Kind: 3, Site: api.Site{Func: 1, Pc: 2}, Addr: 4, Word: 5, Obj: 6, N: 7, Func: 8, Args: []uint32{9, 10}, Trap: 11}
}

func TestSame(t *testing.T) { // P17.3
	others := []func(*api.Want){
		func(w *api.Want) { w.Kind = 4 },
		func(w *api.Want) { w.Kind = -3 },
		func(w *api.Want) { w.Kind += 1 << 32 },
		func(w *api.Want) { w.Site.Func++ },
		func(w *api.Want) { w.Site.Pc = math.MinInt },
		func(w *api.Want) { w.Site.Func, w.Site.Pc = w.Site.Pc, w.Site.Func },
		func(w *api.Want) { w.Addr += 1 << 31 },
		func(w *api.Want) { w.Word = 0 },
		func(w *api.Want) { w.Addr, w.Word = w.Word, w.Addr },
		func(w *api.Want) { w.Obj = math.MaxUint32 },
		func(w *api.Want) { w.N = -w.N },
		func(w *api.Want) { w.N += 1 << 32 },
		func(w *api.Want) { w.Func = 0 },
		func(w *api.Want) { w.Func += 1 << 32 },
		func(w *api.Want) { w.Args = nil },
		func(w *api.Want) { w.Args = w.Args[:1] },
		func(w *api.Want) { w.Args = append(w.Args, 0) },
		func(w *api.Want) { w.Args = []uint32{10, 9} },
		func(w *api.Want) { w.Args[1] = 0 },
		func(w *api.Want) { w.Trap = 1 },
		func(w *api.Want) { *w = api.Want{} },
	}
	for at, change := range others {
		a, b := whole(), whole()
		change(&a)
		change(&b)
		if !fiber.Same(a, b) || !fiber.Same(a, a) || fiber.Same(a, whole()) || fiber.Same(whole(), a) {
			t.Errorf("change %d: %v", at, a)
		}
		for before, other := range others[:at] {
			c := whole()
			other(&c)
			if fiber.Same(a, c) || fiber.Same(c, a) {
				t.Errorf("changes %d, %d: %v, %v", at, before, a, c)
			}
		}
	}
	a, b := whole(), whole()
	a.Args, b.Args = nil, []uint32{}
	if !fiber.Same(a, b) || !fiber.Same(b, a) || !fiber.Same(api.Want{}, api.Want{Args: []uint32{}}) {
		t.Errorf("nil and empty are not the same")
	}
	if a = whole(); !fiber.Same(a, whole()) || !slices.Equal(a.Args, []uint32{9, 10}) {
		t.Errorf("%v", a)
	}
}
