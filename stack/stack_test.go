package stack_test

import (
	"math"
	"reflect"
	"slices"
	"testing"

	"linesman/api"
	"linesman/program"
	"linesman/stack"
)

func TestNew(t *testing.T) { // P12.1
	p := of(code(1, back(0)), code(3, back(2)), full().Funcs[0])
	p.Funcs[2].Code = []api.Ins{back(15)}
	words := []uint32{math.MaxUint32, 7, 0, 9, 1, 2, 3, 4, 5, 6, 7, 8, 9, 10, 11, 12}
	for f := range p.Funcs {
		for many := range p.Funcs[f].Regs + 1 {
			s, m := made(t, p, f, words[:many]...), modelled(p, f, words[:many]...)
			holds(t, s, m)
		}
	}
	holds(t, made(t, full(), 31, words...), modelled(full(), 31, words...))
}

func TestNewRefuses(t *testing.T) { // P12.1
	none := func(name string, want api.Errno, p api.Program, f int, args ...uint32) {
		t.Helper()
		if s, e := stack.New(p, f, args...); s != nil || e != want {
			t.Errorf("%s: New(%v, %d, %v): %v, %v", name, p, f, args, s, e)
		}
	}
	for _, p := range bad() {
		// That the program may not be goes ahead of what it has not.
		for _, f := range append([]int{-1, 0, 1, 2, 33}, huge...) {
			none("a program", api.ErrArg, p, f)
			none("a program", api.ErrArg, p, f, make([]uint32, 20)...)
		}
	}
	for _, f := range append([]int{-2, -1, 2, 3, 31, 32}, huge...) {
		none("a function", api.ErrRange, sum(), f)
		none("a function", api.ErrRange, sum(), f, 1, 2, 3, 4)
	}
	for _, many := range []int{4, 5, 16, 17, 1 << 16} {
		none("words", api.ErrRange, sum(), 0, make([]uint32, many)...)
	}
	none("words that another function takes", api.ErrRange, sum(), 1, 1, 2, 3)
	none("words of the greatest", api.ErrRange, full(), 31, make([]uint32, 17)...)
}

func TestWhatIsHandedInIsNotKept(t *testing.T) { // P12.1, P12.3
	p := sum()
	p.Funcs = append(p.Funcs, code(9, back(0)))[:2]
	args := []uint32{1, 2, 3, 4, 5}
	s := made(t, p, 0, args[:3]...)
	kept := s.Copy()
	steps(t, s, 4)
	if !program.Same(p, sum()) || p.Funcs[:3][2].Regs != 9 || !slices.Equal(args, []uint32{1, 2, 3, 4, 5}) {
		t.Errorf("%v, %v", p, args)
	}
	if s.Result() != 5 {
		t.Errorf("Result %d", s.Result())
	}
	args[1], args[2] = 50, 60
	for at := range p.Funcs {
		p.Funcs[at].Regs = 1
		p.Funcs[at].Code[0] = api.Ins{}
		p.Funcs[at].Code = p.Funcs[at].Code[:0]
	}
	holds(t, kept, modelled(sum(), 0, 1, 2, 3))
	steps(t, kept, 4)
	if kept.Result() != 5 || !stack.Same(s, kept) {
		t.Errorf("Result %d", kept.Result())
	}
}

func TestWhatIsToldOnTheWay(t *testing.T) { // P12.2
	s, m := made(t, sum(), 0, 0, 2, 3), modelled(sum(), 0, 0, 2, 3)
	for range 4 {
		holds(t, s, m)
		for _, i := range append(huge, 16, 17) {
			if n := s.Reg(i); n != 0 {
				t.Errorf("Reg(%d) = %d", i, n)
			}
		}
		if e, f := s.Step(2), m.step(2); e != api.OK || f != api.OK {
			t.Fatalf("%v, %v", e, f)
		}
	}
	holds(t, s, m)
	if i, at, is := s.Next(); i != (api.Ins{}) || at != (api.Site{}) || is {
		t.Errorf("Next at the end: %v, %v, %v", i, at, is)
	}
	// A register of the frame below is none of the top's.
	s = made(t, sum(), 0, 1, 2, 3)
	steps(t, s, 1)
	if s.Reg(1) != 3 || s.Reg(2) != 0 {
		t.Errorf("Reg: %d, %d", s.Reg(1), s.Reg(2))
	}
	if i, at, is := s.Next(); i.Op != api.OpArith || at != (api.Site{Func: 1}) || !is {
		t.Errorf("Next: %v, %v, %v", i, at, is)
	}
}

func TestAResultIsThereAtTheEndAlone(t *testing.T) { // P12.2
	s := made(t, deep(), 0, 3)
	e := on(t, s, 9, func() {
		if is := s.Depth() == 0; is != (s.Result() == 3) || !is && s.Result() != 0 {
			t.Errorf("Depth %d, Result %d", s.Depth(), s.Result())
		}
	})
	if e != api.ErrEnded || s.Depth() != 0 || s.Result() != 3 {
		t.Errorf("%v, Depth %d, Result %d", e, s.Depth(), s.Result())
	}
}

// called is a stack with so many frames, whose registers tell which is which; the top calls once more.
func called(t *testing.T, many int) *stack.Stack {
	t.Helper()
	s := made(t, deep(), 0, 100)
	if e := on(t, s, many, func() {}); e != api.ErrDeep {
		t.Fatalf("to depth %d: %v", many, e)
	}
	return s
}

func TestFramesFromTheTopDown(t *testing.T) { // P12.2
	s := called(t, 4)
	want := []api.Frame{{Pc: 4, Regs: []uint32{96, 1}}, {Pc: 5, Regs: []uint32{97, 1}}, {Pc: 5, Regs: []uint32{98, 1}}, {Pc: 5, Regs: []uint32{99, 1}}}
	walk := s.Frames()
	for many := range 5 {
		if got := gone(t, many, walk); !slices.EqualFunc(got, want[:many], sameFrame) {
			t.Errorf("the first %d: %v", many, got)
		}
		if got := gone(t, -1, walk); !slices.EqualFunc(got, want, sameFrame) {
			t.Errorf("gone over again, behind %d: %v", many, got)
		}
	}
	for many := range want {
		calls := 0
		walk(func(int, api.Frame) bool {
			calls++
			return calls <= many
		})
		if calls != many+1 {
			t.Errorf("left at %d, it told %d", many+1, calls)
		}
	}
	for at, f := range walk {
		if got := gone(t, -1, walk); !sameFrame(f, want[at]) || !slices.EqualFunc(got, want, sameFrame) {
			t.Errorf("within itself, at %d: %v, %v", at, f, got)
		}
	}
}

func TestFramesAreAsTheyWere(t *testing.T) { // P12.2
	s := called(t, 3)
	want := gone(t, -1, s.Frames())
	walk := s.Frames()
	var got []api.Frame
	for _, f := range walk {
		got = append(got, f)
		steps(t, s, 7)
	}
	if !slices.EqualFunc(got, want, sameFrame) || !slices.EqualFunc(gone(t, -1, walk), want, sameFrame) {
		t.Errorf("while it goes on: %v", got)
	}
	on(t, s, 4, func() {})
	if got := gone(t, -1, walk); !slices.EqualFunc(got, want, sameFrame) {
		t.Errorf("once it has gone on: %v", got)
	}
	// One of a stack at its end tells nothing.
	s = made(t, of(code(1, back(0))), 0)
	walk = s.Frames()
	steps(t, s, 1)
	if l, m := gone(t, -1, walk), gone(t, -1, s.Frames()); len(l) != 1 || m != nil {
		t.Errorf("%v, %v", l, m)
	}
}

func TestFramesShareNothing(t *testing.T) { // P12.2
	s := called(t, 3)
	want := gone(t, -1, s.Copy().Frames())
	walk := s.Frames()
	for range 2 {
		got := gone(t, -1, walk)
		if !slices.EqualFunc(got, want, sameFrame) {
			t.Errorf("%v", got)
		}
		for _, f := range got {
			room := f.Regs[:cap(f.Regs)]
			for at := range room {
				room[at] = 1234
			}
		}
	}
	if got := gone(t, -1, s.Frames()); !slices.EqualFunc(got, want, sameFrame) {
		t.Errorf("written over: %v", got)
	}
}

func TestAPanicOfWhoWalksIsTheirs(t *testing.T) { // P12.2
	defer func() {
		if up := recover(); up != "mine" {
			t.Errorf("recovered: %v", up)
		}
	}()
	for range called(t, 2).Frames() {
		panic("mine")
	}
}

func TestCopiesGoOnApart(t *testing.T) { // P12.3
	s := called(t, 3)
	frames := gone(t, -1, s.Frames())
	other := s.Copy()
	if other == s || !stack.Same(s, other) || !stack.Same(other, s) {
		t.Errorf("a copy is not the same")
	}
	third := other.Copy()
	on(t, other, 4, func() {})
	if !slices.EqualFunc(gone(t, -1, s.Frames()), frames, sameFrame) || stack.Same(s, other) || !stack.Same(s, third) {
		t.Errorf("it went on with its copy: %v", gone(t, -1, s.Frames()))
	}
	steps(t, s, 200)
	if !slices.EqualFunc(gone(t, -1, third.Frames()), frames, sameFrame) {
		t.Errorf("a copy went on with it: %v", gone(t, -1, third.Frames()))
	}
	// Those that do the same stay the same, to the end.
	s, other = called(t, 3), called(t, 3)
	on(t, s, 101, func() {
		if !stack.Same(s, other.Copy()) {
			t.Fatalf("at depth %d", s.Depth())
		}
		other.Step(101)
	})
	if end := s.Copy(); end == nil || end.Depth() != 0 || end.Result() != 100 || !stack.Same(end, s) {
		t.Errorf("a copy at the end: %v", end)
	}
}

// both is a stack, and its model.
type both struct {
	s *stack.Stack
	m *model
}

// all are those of a run to its end, each at its own step.
func all(t *testing.T, p api.Program, f int, args ...uint32) []both {
	t.Helper()
	one := both{made(t, p, f, args...), modelled(p, f, args...)}
	l := []both{one}
	for one.s.Depth() > 0 && len(l) < 1000 {
		one = both{one.s.Copy(), one.m.copied()}
		if e, want := one.s.Step(9), one.m.step(9); e != api.OK || want != api.OK {
			t.Fatalf("%v, %v", e, want)
		}
		l = append(l, one)
	}
	return l
}

// twins is a program whose functions 1 and 2 are the same; function 0 calls one of them, and hands it nothing.
func twins() api.Program {
	yield := api.Ins{Op: api.OpYield}
	return of(
		code(2, api.Ins{Op: api.OpIf, A: 1, Imm: 3}, api.Ins{Op: api.OpCall, Imm: 1}, back(0), api.Ins{Op: api.OpCall, A: 1, Imm: 2}, back(1)),
		code(2, yield, yield, back(1)),
		code(2, yield, yield, back(1)),
	)
}

// changed are twins, with one part otherwise each.
func changed() []api.Program {
	l := make([]api.Program, 7)
	for at := range l {
		l[at] = twins()
	}
	l[0].Mutexes++
	l[1].Rwlocks++
	l[2].Groups++
	l[3].Funcs[0].Regs++
	l[4].Funcs[0].Code[2].A++
	l[5].Funcs[0].Code = append(l[5].Funcs[0].Code, back(0))
	l[6].Funcs = append(l[6].Funcs, code(1, back(0)))
	return l
}

func TestSame(t *testing.T) { // P12.3
	var l []both
	for _, args := range [][]uint32{{}, {0, 0}, {0, 1}, {7}, {7, 2}} {
		l = append(l, all(t, twins(), 0, args...)...)
	}
	l = append(l, all(t, deep(), 0, 2)...)
	for f := 1; f < 3; f++ {
		l = append(l, all(t, twins(), f)...)
		l = append(l, all(t, twins(), f, 0, 9)...)
		for _, p := range changed() {
			l = append(l, all(t, p, f)...)
		}
	}
	many := 0
	for _, a := range l {
		for _, b := range l {
			want := reflect.DeepEqual(a.m.p, b.m.p) && slices.EqualFunc(a.m.frames, b.m.frames, sameFrame) && a.m.result == b.m.result
			if got := stack.Same(a.s, b.s); got != want || stack.Same(a.s.Copy(), b.s) != want {
				t.Errorf("Same: %v, of %v and %v", got, a.m, b.m)
			}
			if want && a.s != b.s {
				many++
			}
		}
		for _, none := range nones() {
			if stack.Same(a.s, none) || stack.Same(none, a.s) {
				t.Errorf("%v is like none", a.m)
			}
		}
	}
	if many == 0 {
		t.Errorf("no two are the same")
	}
}

func TestSameOfOnePartOtherwise(t *testing.T) { // P12.3
	at := func(steps int, p api.Program, f int, args ...uint32) *stack.Stack {
		return all(t, p, f, args...)[steps].s
	}
	again := of(code(1, api.Ins{Op: api.OpIf, Imm: 2}, api.Ins{Op: api.OpCall, B: 0}, back(0)))
	once, twice := made(t, again, 0), made(t, again, 0)
	steps(t, once, 2)
	steps(t, twice, 4)
	for name, l := range map[string][2]*stack.Stack{
		"Func":             {at(0, twins(), 1), at(0, twins(), 2)},
		"Pc":               {at(0, twins(), 1), at(1, twins(), 1)},
		"a register":       {at(1, twins(), 1), at(1, twins(), 1, 0, 1)},
		"a register below": {at(2, twins(), 0), at(2, twins(), 0, 1)},
		"the result":       {at(3, twins(), 1), at(3, twins(), 1, 0, 1)},
		"a frame more":     {once, twice},
	} {
		if stack.Same(l[0], l[1]) || stack.Same(l[1], l[0]) {
			t.Errorf("%s is otherwise", name)
		}
	}
	for n, p := range changed() {
		for many := range 4 {
			if stack.Same(at(many, p, 1), at(many, twins(), 1)) {
				t.Errorf("program %d, behind %d", n, many)
			}
		}
	}
}

// nones are no stacks.
func nones() []*stack.Stack {
	return []*stack.Stack{nil, {}, new(stack.Stack)}
}

func TestNoStack(t *testing.T) { // P12.1, P12.2, P12.3
	for _, s := range nones() {
		for _, n := range append([]int{-1, 0, 1, 2}, huge...) {
			if e := s.Step(n); e != api.ErrNil {
				t.Errorf("Step(%d): %v", n, e)
			}
			if e := s.Pass(n, 3); e != api.ErrNil {
				t.Errorf("Pass(%d): %v", n, e)
			}
			if w := s.Reg(n); w != 0 {
				t.Errorf("Reg(%d): %d", n, w)
			}
		}
		if i, at, is := s.Next(); i != (api.Ins{}) || at != (api.Site{}) || is {
			t.Errorf("Next: %v, %v, %v", i, at, is)
		}
		if s.Depth() != 0 || s.Result() != 0 || s.Copy() != nil {
			t.Errorf("Depth %d, Result %d, Copy %v", s.Depth(), s.Result(), s.Copy())
		}
		if walk := s.Frames(); walk == nil || gone(t, -1, walk) != nil {
			t.Errorf("Frames")
		}
		for _, other := range nones() {
			if !stack.Same(s, other) {
				t.Errorf("none is not like none")
			}
		}
	}
	_, e := stack.New(api.Program{}, 0)
	if s, _ := stack.New(api.Program{}, 0); s != nil || s.Step(1) != api.ErrNil || e != api.ErrArg {
		t.Errorf("%v, %v", s, e)
	}
}
