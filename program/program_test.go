package program_test

import (
	"math"
	"slices"
	"testing"

	"linesman/api"
	"linesman/program"
)

// holds holds what Check and Wrong tell of a program against what they have to.
func holds(t *testing.T, name string, p api.Program, may bool, s api.Site, is bool) {
	t.Helper()
	want := api.ErrArg
	if may {
		want = api.OK
	}
	if got := program.Check(p); got != want {
		t.Errorf("%s: Check: %v", name, got)
	}
	if there, wrong := program.Wrong(p); there != s || wrong != is {
		t.Errorf("%s: Wrong: %v, %v, not %v, %v", name, there, wrong, s, is)
	}
}

func TestTheChaptersExamples(t *testing.T) { // P9.1
	load, ret, yield := api.Ins{Op: api.OpLoad, A: 0, B: 1}, api.Ins{Op: api.OpReturn}, api.Ins{Op: api.OpYield}
	of := func(regs int, code ...api.Ins) api.Program {
		return api.Program{Funcs: []api.Func{{Regs: regs, Code: code}}}
	}
	holds(t, "load, return", of(2, load, ret), true, api.Site{}, false)
	holds(t, "a register too few", of(1, load, ret), false, api.Site{}, true)
	holds(t, "yield at the end", of(1, ret, yield), false, api.Site{Pc: 1}, true)
}

func TestProgramsThatMayBe(t *testing.T) { // P9.1
	holds(t, "small", small(), true, api.Site{}, false)
	holds(t, "full", full(), true, api.Site{}, false)
	least := api.Program{Funcs: []api.Func{{Regs: 1, Code: []api.Ins{{Op: api.OpJump}}}}}
	holds(t, "least", least, true, api.Site{}, false)
}

func TestNumbersOfSharedThings(t *testing.T) { // P9.1
	for _, n := range []int{math.MinInt, -1 << 32, -65, -1, 0, 1, 63, 64, 65, 128, 256, 1 << 32, math.MaxInt} {
		for name, p := range numbered(n) {
			holds(t, name, p, n >= 0 && n <= 64, api.Site{}, false)
			// Of a program whose numbers may not be no site is told, whatever it has; of the others it is.
			p.Funcs[1].Code[2] = api.Ins{}
			is := n >= 0 && n <= 64
			want := api.Site{}
			if is {
				want = api.Site{Func: 1, Pc: 2}
			}
			holds(t, name+", and an instruction", p, false, want, is)
		}
	}
}

func TestNumbersOfFunctionsRegistersAndInstructions(t *testing.T) { // P9.1
	for _, c := range []struct {
		of   func(n int) map[string]api.Program
		most int
	}{{registered, 16}, {coded, 512}, {functions, 32}} {
		for _, n := range []int{0, 1, 2, c.most - 1, c.most, c.most + 1, c.most + 2, 2 * c.most, 256, 1024} {
			for name, p := range c.of(n) {
				may := n >= 1 && n <= c.most
				holds(t, name, p, may, api.Site{}, false)
				if len(p.Funcs) > 0 && len(p.Funcs[0].Code) > 0 {
					p.Funcs[0].Code[0] = api.Ins{Op: api.OpYield, A: 1}
					holds(t, name+", and an instruction", p, false, api.Site{}, may)
				}
			}
		}
	}
	for _, n := range []int{math.MinInt, -1 << 32, -16, -1, 1 << 31, 1 << 32, 1<<32 + 1, math.MaxInt} {
		for name, p := range registered(n) {
			holds(t, name, p, false, api.Site{}, false)
		}
	}
	holds(t, "nothing", api.Program{}, false, api.Site{}, false)
	holds(t, "no functions", api.Program{Funcs: []api.Func{}}, false, api.Site{}, false)
	holds(t, "wild", wild(), false, api.Site{}, false)
}

func TestEachInstructionAtEachPlace(t *testing.T) { // P9.1, P9.4
	p := small()
	all := grid()
	for _, s := range []api.Site{{Func: 0, Pc: 0}, {Func: 0, Pc: 4}, {Func: 1, Pc: 2}, {Func: 1, Pc: 3}} {
		for _, i := range all {
			// All else may be, so a program with one that may be there may be, too.
			may := mayStand(p, s, i)
			want := s
			if may {
				want = api.Site{}
			}
			q := with(p, s, i)
			if got, is := program.Wrong(q); got != want || is == may {
				t.Errorf("%v at %v: %v, %v", i, s, got, is)
			}
			if is := program.Check(q) == api.OK; is != may {
				t.Errorf("%v at %v: %v", i, s, is)
			}
		}
	}
}

func TestInstructionsThatAProgramRulesOut(t *testing.T) { // P9.1
	for _, c := range []struct {
		name string
		i    api.Ins
		may  bool
	}{
		{"the last register", api.Ins{Op: api.OpMove, A: 2, B: 2}, true},
		{"a register A that is not there", api.Ins{Op: api.OpMove, A: 3, B: 2}, false},
		{"a register B that is not there", api.Ins{Op: api.OpMove, A: 2, B: 3}, false},
		{"a register C that is not there", api.Ins{Op: api.OpArith, C: 3, Imm: 1}, false},
		{"a jump to the last place", api.Ins{Op: api.OpJump, Imm: 4}, true},
		{"a jump behind it", api.Ins{Op: api.OpJump, Imm: 5}, false},
		{"an if to the last place", api.Ins{Op: api.OpIf, Imm: 4}, true},
		{"an if behind it", api.Ins{Op: api.OpIf, Imm: 5}, false},
		{"a const that is as great", api.Ins{Op: api.OpConst, Imm: 5}, true},
		{"a call of the last function", api.Ins{Op: api.OpCall, Imm: 1}, true},
		{"a call of one that is not there", api.Ins{Op: api.OpCall, Imm: 2}, false},
		{"a goroutine of the last function", api.Ins{Op: api.OpGo, Imm: 1}, true},
		{"a goroutine of one that is not there", api.Ins{Op: api.OpGo, Imm: 2}, false},
		{"a call of itself with all words", api.Ins{Op: api.OpCall, C: 3, Imm: 0}, true},
		{"a call with a word too many", api.Ins{Op: api.OpCall, C: 3, Imm: 1}, false},
		{"a goroutine with as many words as may be", api.Ins{Op: api.OpGo, C: 2, Imm: 1}, true},
		{"a goroutine with a word too many", api.Ins{Op: api.OpGo, C: 3, Imm: 1}, false},
		{"words up to the last register", api.Ins{Op: api.OpCall, B: 1, C: 2, Imm: 1}, true},
		{"a call with words behind it", api.Ins{Op: api.OpCall, B: 2, C: 2, Imm: 1}, false},
		{"a goroutine with words behind it", api.Ins{Op: api.OpGo, B: 2, C: 2, Imm: 1}, false},
		{"no words, from a register that is not there on", api.Ins{Op: api.OpCall, B: 3, C: 0, Imm: 1}, false},
		{"a goroutine without words, from one that is not there on", api.Ins{Op: api.OpGo, B: 3, C: 0, Imm: 1}, false},
		{"a call into a register that is not there", api.Ins{Op: api.OpCall, A: 3, Imm: 1}, false},
		{"a mutex by the last register", api.Ins{Op: api.OpLock, A: 2}, true},
		{"a mutex by one that is not there", api.Ins{Op: api.OpLock, A: 3}, false},
		{"no instruction", api.Ins{}, false},
		{"one with what its Op does not name", api.Ins{Op: api.OpYield, Imm: 1}, false},
		{"a kind that is none", api.Ins{Op: api.OpArith}, false},
	} {
		s := api.Site{Func: 0, Pc: 1}
		want := s
		if c.may {
			want = api.Site{}
		}
		holds(t, c.name, with(small(), s, c.i), c.may, want, !c.may)
	}
}

func TestTheFirstOneThatIsWrongIsTold(t *testing.T) { // P9.1
	yield := api.Ins{Op: api.OpYield}
	for _, c := range []struct {
		wrong map[api.Site]api.Ins
		want  api.Site
	}{
		{map[api.Site]api.Ins{{Func: 0, Pc: 3}: {}, {Func: 1, Pc: 0}: {}}, api.Site{Func: 0, Pc: 3}},
		{map[api.Site]api.Ins{{Func: 1, Pc: 2}: {}, {Func: 1, Pc: 1}: {}}, api.Site{Func: 1, Pc: 1}},
		// A function that goes on behind its end is told at its last place, ahead of the functions behind it.
		{map[api.Site]api.Ins{{Func: 0, Pc: 4}: yield, {Func: 1, Pc: 0}: {}}, api.Site{Func: 0, Pc: 4}},
		{map[api.Site]api.Ins{{Func: 0, Pc: 4}: yield, {Func: 0, Pc: 2}: {Op: api.OpJump, Imm: 5}}, api.Site{Func: 0, Pc: 2}},
		{map[api.Site]api.Ins{{Func: 1, Pc: 3}: {Op: api.OpIf}, {Func: 0, Pc: 0}: {Op: api.OpCall, Imm: 2}}, api.Site{Func: 0, Pc: 0}},
		{map[api.Site]api.Ins{{Func: 1, Pc: 3}: {Op: api.OpIf}}, api.Site{Func: 1, Pc: 3}},
		{map[api.Site]api.Ins{{Func: 1, Pc: 3}: {}}, api.Site{Func: 1, Pc: 3}},
		{map[api.Site]api.Ins{{Func: 1, Pc: 3}: {Op: api.OpReturn, A: 2}}, api.Site{Func: 1, Pc: 3}},
	} {
		p := small()
		for s, i := range c.wrong {
			p = with(p, s, i)
		}
		holds(t, "several", p, false, c.want, true)
	}
	p := full()
	p.Funcs[31].Code[511] = yield
	holds(t, "the last place of all", p, false, api.Site{Func: 31, Pc: 511}, true)
	p.Funcs[31].Code[510] = api.Ins{Op: api.OpJump, Imm: 512}
	holds(t, "the one ahead of it", p, false, api.Site{Func: 31, Pc: 510}, true)
	p.Funcs[31].Regs = 15 // the calls of it have 16 words
	holds(t, "a register of another function", p, false, api.Site{Func: 0, Pc: 1}, true)
}

func TestAt(t *testing.T) { // P9.2
	for _, p := range []api.Program{small(), full(), wild(), {}, {Funcs: make([]api.Func, 3)}} {
		for _, f := range []int{math.MinInt, -1 << 32, -1, 0, 1, 2, 3, 31, 32, 38, 39, 40, 1 << 32, math.MaxInt} {
			for _, pc := range []int{math.MinInt, -1 << 32, -1, 0, 1, 2, 3, 4, 5, 511, 512, 599, 600, 1 << 32, math.MaxInt} {
				want, why := api.Ins{}, api.ErrRange
				if f >= 0 && f < len(p.Funcs) && pc >= 0 && pc < len(p.Funcs[f].Code) {
					want, why = p.Funcs[f].Code[pc], api.OK
				}
				if got, e := program.At(p, api.Site{Func: f, Pc: pc}); got != want || e != why {
					t.Errorf("At %d, %d: %v, %v, not %v, %v", f, pc, got, e, want, why)
				}
			}
		}
	}
	if got, e := program.At(small(), api.Site{Func: 1, Pc: 1}); got != (api.Ins{Op: api.OpIf, A: 1, Imm: 3}) || e != api.OK {
		t.Errorf("At: %v, %v", got, e)
	}
}

func TestLen(t *testing.T) { // P9.2
	for _, c := range []struct {
		p    api.Program
		want int
	}{
		{small(), 9}, {full(), 16384}, {wild(), 604}, {api.Program{}, 0}, {api.Program{Mutexes: 5, Funcs: []api.Func{}}, 0}, {api.Program{Funcs: make([]api.Func, 7)}, 0},
	} {
		if got := program.Len(c.p); got != c.want {
			t.Errorf("Len = %d, not %d", got, c.want)
		}
	}
}

// gone are the sites that Sites goes over, whose numbers are held against those that they have to be.
func gone(t *testing.T, sites func(func(int, api.Site) bool)) []api.Site {
	t.Helper()
	var l []api.Site
	for at, s := range sites {
		if at != len(l) {
			t.Errorf("%v is number %d, not %d", s, at, len(l))
		}
		l = append(l, s)
	}
	return l
}

func TestSites(t *testing.T) { // P9.2
	all := full()
	var want []api.Site
	for f := range 32 {
		for pc := range 511 {
			if i := all.Funcs[f].Code[pc]; i.Op == 6 || i.Op == 7 {
				want = append(want, api.Site{Func: f, Pc: pc})
			}
		}
	}
	for _, c := range []struct {
		p    api.Program
		want []api.Site
	}{
		{small(), []api.Site{{Func: 0, Pc: 1}, {Func: 0, Pc: 3}, {Func: 1, Pc: 0}, {Func: 1, Pc: 2}}},
		{all, want},
		{wild(), wildSites},
		{api.Program{}, nil},
		{api.Program{Funcs: []api.Func{{}, {Code: []api.Ins{}}}}, nil},
		{api.Program{Funcs: []api.Func{{Regs: 1, Code: []api.Ins{{Op: api.OpReturn}}}}}, nil},
	} {
		sites := program.Sites(c.p)
		for range 2 {
			if got := gone(t, sites); !slices.Equal(got, c.want) {
				t.Errorf("Sites: %v, not %v", got, c.want)
			}
		}
	}
}

func TestSitesAreThoseOfLoadsAndStoresAlone(t *testing.T) { // P9.2
	for _, i := range grid() {
		p := api.Program{Funcs: []api.Func{{}, {Code: []api.Ins{{Op: api.OpYield}, i}}}}
		var want []api.Site
		if i.Op == api.OpLoad || i.Op == api.OpStore {
			want = []api.Site{{Func: 1, Pc: 1}}
		}
		if got := gone(t, program.Sites(p)); !slices.Equal(got, want) {
			t.Errorf("Sites of %v: %v", i, got)
		}
	}
}

func TestSitesAreLeft(t *testing.T) { // P9.2
	for _, p := range []api.Program{small(), wild()} {
		sites := program.Sites(p)
		all := gone(t, sites)
		for many := range len(all) + 1 {
			var got []api.Site
			for at, s := range sites {
				if at == many {
					break
				}
				got = append(got, s)
			}
			if !slices.Equal(got, all[:many]) {
				t.Errorf("left behind %d: %v", many, got)
			}
		}
		// Two go over them at once, and neither moves the other one.
		for at, s := range sites {
			if s != all[at] || !slices.Equal(gone(t, sites), all) {
				t.Errorf("within: %d, %v", at, s)
			}
		}
	}
}

func TestSitesAreAsTheyWere(t *testing.T) { // P9.2
	p := small()
	want := gone(t, program.Sites(p))
	sites := program.Sites(p)
	p.Funcs[0].Code[0] = api.Ins{Op: api.OpStore}
	p.Funcs[0].Code[1] = api.Ins{Op: api.OpYield}
	p.Funcs[1].Code = nil
	if got := gone(t, sites); !slices.Equal(got, want) {
		t.Errorf("Sites: %v, not %v", got, want)
	}
	if got := gone(t, program.Sites(p)); !slices.Equal(got, []api.Site{{Func: 0, Pc: 0}, {Func: 0, Pc: 3}}) {
		t.Errorf("Sites of what it is now: %v", got)
	}
	p = small()
	var got []api.Site
	for _, s := range program.Sites(p) {
		got = append(got, s)
		p.Funcs[1] = api.Func{}
		p.Funcs[0].Code[3] = api.Ins{}
	}
	if !slices.Equal(got, want) {
		t.Errorf("Sites of what changes meanwhile: %v, not %v", got, want)
	}
}

func TestWhatIsAskedChangesNothing(t *testing.T) { // P9.1, P9.2, P9.3
	for _, p := range []api.Program{small(), full(), wild()} {
		// Spare room behind each list is looked at, too.
		p.Funcs = append(p.Funcs, api.Func{Regs: 7, Code: []api.Ins{{Op: api.OpWait}}})
		for at, f := range p.Funcs {
			p.Funcs[at].Code = append(f.Code, api.Ins{Op: api.OpLock, A: 5})
		}
		whole := twin(p)
		shorter := p
		shorter.Funcs = p.Funcs[:len(p.Funcs)-1]
		for at, f := range shorter.Funcs {
			shorter.Funcs[at].Code = f.Code[:len(f.Code)-1]
		}
		program.Check(shorter)
		program.Wrong(shorter)
		program.At(shorter, api.Site{})
		program.Len(shorter)
		gone(t, program.Sites(shorter))
		program.Same(shorter, shorter)
		c := program.Copy(shorter)
		c.Funcs = append(c.Funcs, api.Func{})
		for at, f := range c.Funcs {
			c.Funcs[at].Code = append(f.Code, api.Ins{})
		}
		for at, f := range shorter.Funcs {
			shorter.Funcs[at].Code = f.Code[:len(f.Code)+1]
		}
		shorter.Funcs = shorter.Funcs[:len(shorter.Funcs)+1]
		if !equal(shorter, whole) {
			t.Error("a program is not what it was")
		}
	}
}
