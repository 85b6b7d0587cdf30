package asm_test

import (
	"iter"
	"math"
	"slices"
	"testing"

	"linesman/api"
	"linesman/asm"
	"linesman/program"
)

// line is what a walk told once.
type line struct {
	at   int
	text string
}

// first are the first few of what a walk tells; all, if there are none so many.
func first(many int, s iter.Seq2[int, string]) []line {
	var l []line
	if many == 0 {
		return l
	}
	for at, text := range s {
		l = append(l, line{at, text})
		if len(l) == many {
			break
		}
	}
	return l
}

// counted are lines with their numbers.
func counted(texts []string) []line {
	var l []line
	for at, text := range texts {
		l = append(l, line{at, text})
	}
	return l
}

func TestTheChaptersExamples(t *testing.T) { // P11.1, P11.2
	text := "mutexes 1\nrwlocks 0\ngroups 0\nfunc 1\nreturn r0\n"
	if got, e := asm.Print(tiny()); got != text || e != api.OK {
		t.Errorf("Print: %q, %v", got, e)
	}
	reads(t, text, tiny(), 5)
	refuses(t, "mutexes 1\nrwlocks x", 1)
	refuses(t, "mutexes 1\nrwlocks x\n", 1)
	refuses(t, "mutexes 0\nrwlocks 0\ngroups 0\nfunc 1\nload r0 r1\nreturn r0\n", 4)
}

func TestPrintAndLinesOfSmall(t *testing.T) { // P11.1
	if got, e := asm.Print(small()); got != whole(smallLines()...) || e != api.OK {
		t.Errorf("Print: %q, %v", got, e)
	}
	if got := first(-1, asm.Lines(small())); !slices.Equal(got, counted(smallLines())) {
		t.Errorf("Lines: %v", got)
	}
}

func TestPrintAndLines(t *testing.T) { // P11.1
	for _, p := range append(good(), full()) {
		want := lined(p)
		if got, e := asm.Print(p); got != whole(want...) || e != api.OK {
			t.Errorf("Print(%s) = %.200q, %v", brief(p), got, e)
		}
		if got := first(-1, asm.Lines(p)); !slices.Equal(got, counted(want)) {
			t.Errorf("Lines(%s): %d lines, %v at first", brief(p), len(got), got[:min(len(got), 20)])
		}
	}
}

func TestPlaceOfSmall(t *testing.T) { // P11.1
	for s, want := range map[api.Site]int{{}: 4, {Pc: 1}: 5, {Pc: 8}: 12, {Func: 1}: 14, {Func: 1, Pc: 8}: 22, {Func: 2}: 24, {Func: 2, Pc: 1}: 25} {
		if got, e := asm.Place(small(), s); got != want || e != api.OK {
			t.Errorf("Place(%v) = %d, %v, not %d", s, got, e, want)
		}
	}
}

func TestPlace(t *testing.T) { // P11.1
	for _, p := range good() {
		want := 3
		for f := range p.Funcs {
			want++
			code := p.Funcs[f].Code
			for pc := range code {
				if pc == 3 && len(code) > 6 {
					// Within a long one some are enough.
					want += len(code) - 6
				}
				if pc >= 3 && pc < len(code)-3 {
					continue
				}
				if got, e := asm.Place(p, api.Site{Func: f, Pc: pc}); got != want || e != api.OK {
					t.Errorf("Place(%s, f%d:%d) = %d, %v, not %d", brief(p), f, pc, got, e, want)
				}
				want++
			}
		}
	}
	if got, e := asm.Place(full(), api.Site{Func: 31, Pc: 511}); got != 3+32*513-1 || e != api.OK {
		t.Errorf("Place of the last one: %d, %v", got, e)
	}
}

// nowhere are sites that small does not have.
func nowhere() []api.Site {
	l := []api.Site{{Pc: 9}, {Func: 1, Pc: 9}, {Func: 2, Pc: 2}, {Func: 2, Pc: 8}, {Func: 3}, {Func: 3, Pc: -1}}
	for _, n := range []int{-1, 32, 512, 1 << 32, math.MaxInt, math.MinInt} {
		l = append(l, api.Site{Func: n}, api.Site{Pc: n}, api.Site{Func: n, Pc: n}, api.Site{Func: 2, Pc: n})
	}
	return l
}

func TestPlaceRefuses(t *testing.T) { // P11.1
	for _, s := range nowhere() {
		if got, e := asm.Place(small(), s); got != 0 || e != api.ErrRange {
			t.Errorf("Place(%v) = %d, %v", s, got, e)
		}
	}
	for _, p := range bad() {
		// That the program may not be goes ahead of the site.
		for _, s := range append(nowhere(), api.Site{}) {
			if got, e := asm.Place(p, s); got != 0 || e != api.ErrArg {
				t.Errorf("Place(%s, %v) = %d, %v", brief(p), s, got, e)
			}
		}
	}
}

func TestPrintAndLinesRefuse(t *testing.T) { // P11.1
	for _, p := range bad() {
		if got, e := asm.Print(p); got != "" || e != api.ErrArg {
			t.Errorf("Print(%s) = %.200q, %v", brief(p), got, e)
		}
		walk := asm.Lines(p)
		if walk == nil || first(-1, walk) != nil {
			t.Errorf("Lines(%s)", brief(p))
		}
	}
}

func TestAWalkIsLeft(t *testing.T) { // P11.1
	want := counted(smallLines())
	walk := asm.Lines(small())
	for many := range len(want) + 1 {
		if got := first(many, walk); !slices.Equal(got, want[:many]) {
			t.Errorf("the first %d: %v", many, got)
		}
		if got := first(-1, walk); !slices.Equal(got, want) {
			t.Errorf("gone over again, behind %d: %v", many, got)
		}
	}
	for many := range want {
		calls := 0
		walk(func(int, string) bool {
			calls++
			return calls <= many
		})
		if calls != many+1 {
			t.Errorf("left at %d, it told %d", many+1, calls)
		}
	}
	for at, text := range walk {
		if got := first(at+1, walk); got[at] != (line{at, text}) {
			t.Errorf("within itself, at %d: %v", at, got)
		}
	}
}

func TestAWalkGoesOverTheProgramAsItWas(t *testing.T) { // P11.1
	p := small()
	walk := asm.Lines(p)
	var got []line
	for at, text := range walk {
		got = append(got, line{at, text})
		spoil(p)
	}
	if !slices.Equal(got, counted(smallLines())) {
		t.Errorf("while it changes: %v", got)
	}
	if got := first(-1, walk); !slices.Equal(got, counted(smallLines())) {
		t.Errorf("once more: %v", got)
	}
	// One that may not be has no lines, whatever comes of it.
	p = of(returns(1, 1), returns(0, 1))
	walk = asm.Lines(p)
	p.Funcs[1].Regs = 1
	if got := first(-1, walk); got != nil {
		t.Errorf("of one that may be now: %v", got)
	}
}

func TestAPanicOfWhoWalksIsTheirs(t *testing.T) { // P11.1
	defer func() {
		if up := recover(); up != "mine" {
			t.Errorf("recovered: %v", up)
		}
	}()
	for range asm.Lines(tiny()) {
		panic("mine")
	}
}

func TestWhatIsHandedInIsAsItWas(t *testing.T) { // P11.1
	p := small()
	// There is room behind the lists, with something in it.
	p.Funcs = append(p.Funcs, api.Func{Regs: 77})[:3]
	p.Funcs[2].Code = append(p.Funcs[2].Code, api.Ins{Op: 88})[:2]
	asm.Print(p)
	asm.Place(p, api.Site{Func: 1, Pc: 1})
	first(-1, asm.Lines(p))
	if !program.Same(p, small()) || p.Funcs[:4][3].Regs != 77 || p.Funcs[2].Code[:3][2].Op != 88 {
		t.Errorf("%v", p)
	}
}

// spoil writes over all of a program's lists, spare room included.
func spoil(p api.Program) {
	for at := range p.Funcs {
		code := p.Funcs[at].Code
		for pc := range code[:cap(code)] {
			code[:cap(code)][pc] = api.Ins{Op: 99}
		}
	}
	for at := range p.Funcs[:cap(p.Funcs)] {
		p.Funcs[:cap(p.Funcs)][at] = api.Func{Regs: 99}
	}
}

// turned are small with one part otherwise, each; they may be.
func turned() []api.Program {
	var l []api.Program
	for f, fun := range small().Funcs {
		p := small()
		p.Funcs[f].Regs--
		q := small()
		q.Funcs[f].Code = slices.Insert(q.Funcs[f].Code, 0, api.Ins{Op: api.OpYield})
		l = append(l, p, q)
		for pc := range fun.Code {
			for part := range 5 {
				p := small()
				i := &p.Funcs[f].Code[pc]
				if part == 4 {
					i.Imm ^= 1
				} else {
					*[]*int{(*int)(&i.Op), &i.A, &i.B, &i.C}[part] ^= 1
				}
				l = append(l, p)
			}
		}
	}
	return slices.DeleteFunc(l, func(p api.Program) bool { return program.Check(p) != api.OK })
}

func TestTextsAreTheSameJustIfProgramsAre(t *testing.T) { // P11.3
	programs := append(good(), turned()...)
	if len(programs) < 100 {
		t.Fatalf("just %d", len(programs))
	}
	texts := make([]string, len(programs))
	for at, p := range programs {
		texts[at], _ = asm.Print(p)
		if again, e := asm.Print(program.Copy(p)); again != texts[at] || e != api.OK {
			t.Errorf("Print(%s) = %.200q, %.200q", brief(p), texts[at], again)
		}
		for other := range at {
			if texts[at] == texts[other] || program.Same(p, programs[other]) {
				t.Errorf("%s and %s: %.200q", brief(p), brief(programs[other]), texts[at])
			}
		}
	}
}

func TestParseOfPrintOfParse(t *testing.T) { // P11.3
	for _, p := range slices.Concat(good(), turned(), []api.Program{full()}) {
		text, _ := asm.Print(p)
		got, many, e := asm.Parse(text)
		if e != api.OK || many != len(lined(p)) || !program.Same(got, p) {
			t.Errorf("Parse of Print(%s) = %s, %d, %v", brief(p), brief(got), many, e)
		}
		if again, e := asm.Print(got); again != text || e != api.OK {
			t.Errorf("Print of Parse(%.200q) = %.200q, %v", text, again, e)
		}
	}
}
