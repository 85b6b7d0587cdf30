package asm_test

import (
	"fmt"
	"math"
	"regexp"
	"slices"
	"strconv"
	"strings"

	"linesman/api"
	"linesman/instr"
	"linesman/program"
)

// returns is a function of so many registers that returns in each of so many places.
func returns(regs, many int) api.Func {
	return api.Func{Regs: regs, Code: slices.Repeat([]api.Ins{{Op: api.OpReturn}}, many)}
}

// of is a program of functions, with no shared things.
func of(funcs ...api.Func) api.Program {
	return api.Program{Funcs: funcs}
}

// tiny is the program of the chapter's example.
func tiny() api.Program {
	p := of(returns(1, 1))
	p.Mutexes = 1
	return p
}

// small is a program of three functions, with each Op that there is, and numbers that are unlike each other.
func small() api.Program {
	p := of(
		api.Func{Regs: 12, Code: []api.Ins{
			{Op: api.OpConst, A: 1, Imm: math.MaxUint32},
			{Op: api.OpMove, A: 11, B: 10},
			{Op: api.OpArith, A: 3, B: 4, C: 5, Imm: uint32(api.ArithShl)},
			{Op: api.OpIf, A: 6, Imm: 7},
			{Op: api.OpLoad, A: 7, B: 8},
			{Op: api.OpCall, A: 8, B: 1, C: 2, Imm: 1},
			{Op: api.OpGo, B: 4, Imm: 2},
			{Op: api.OpStore, A: 9, B: 2},
			{Op: api.OpReturn, A: 5},
		}},
		api.Func{Regs: 16, Code: []api.Ins{
			{Op: api.OpLock, A: 15},
			{Op: api.OpUnlock, A: 14},
			{Op: api.OpRLock, A: 13},
			{Op: api.OpRUnlock, A: 12},
			{Op: api.OpWLock, A: 11},
			{Op: api.OpWUnlock, A: 10},
			{Op: api.OpCount, A: 9, B: 8},
			{Op: api.OpWait, A: 7},
			{Op: api.OpJump, Imm: 3},
		}},
		api.Func{Regs: 3, Code: []api.Ins{{Op: api.OpYield}, {Op: api.OpReturn, A: 2}}},
	)
	p.Mutexes, p.Rwlocks, p.Groups = 11, 0, 64
	return p
}

// smallLines are those of small.
func smallLines() []string {
	return []string{
		"mutexes 11", "rwlocks 0", "groups 64",
		"func 12", "const r1 4294967295", "move r11 r10", "shl r3 r4 r5", "if r6 7", "load r7 r8", "call r8 r1 2 f1", "go r4 0 f2", "store r9 r2", "return r5",
		"func 16", "lock r15", "unlock r14", "rlock r13", "runlock r12", "wlock r11", "wunlock r10", "count r9 r8", "wait r7", "jump 3",
		"func 3", "yield", "return r2",
	}
}

// full is a program that is as great as one may be.
func full() api.Program {
	f := returns(16, 512)
	for pc := range 511 {
		f.Code[pc] = api.Ins{Op: api.OpCall, A: 15, C: 16, Imm: 31}
	}
	return api.Program{Funcs: slices.Repeat([]api.Func{f}, 32), Mutexes: 64, Rwlocks: 64, Groups: 64}
}

// good are programs that may be, of all kinds and at edges, no two the same.
func good() []api.Program {
	l := []api.Program{tiny(), small()}
	for _, n := range []int{0, 2, 9, 10, 63, 64} {
		l = append(l, shared(n)...)
	}
	for _, n := range []int{2, 10, 31, 32} {
		l = append(l, of(slices.Repeat([]api.Func{returns(1, 1)}, n)...))
	}
	for _, n := range []int{2, 256, 511, 512} {
		l = append(l, of(returns(1, n)), of(returns(1, n), returns(2, 1)))
	}
	for n := range 15 {
		l = append(l, of(returns(n+2, 1)), of(returns(1, 1), returns(n+2, 1)))
	}
	// Where a function begins tells, too.
	return append(l, of(returns(1, 1), returns(1, 3)), of(returns(1, 2), returns(1, 2)), of(returns(1, 3), returns(1, 1)))
}

// shared are programs that may be but for one of their numbers of shared things, that is so great.
func shared(n int) []api.Program {
	p := api.Program{Funcs: of(returns(1, 1)).Funcs, Mutexes: 5, Rwlocks: 6, Groups: 7}
	a, b, c := p, p, p
	a.Mutexes, b.Rwlocks, c.Groups = n, n, n
	return []api.Program{a, b, c}
}

// unnumbered are programs whose numbers may not be, but stand on lines.
func unnumbered() []api.Program {
	l := []api.Program{
		of(returns(1, 0)), of(returns(0, 1)), of(returns(17, 1)), of(returns(999, 1)), of(returns(1, 513)),
		of(returns(1, 1), returns(1, 0)), of(returns(1, 0), returns(1, 1)), of(returns(1, 1), returns(0, 1)), of(returns(1, 1), returns(17, 1)),
		of(slices.Repeat([]api.Func{returns(1, 1)}, 33)...),
		of(slices.Repeat([]api.Func{returns(1, 1)}, 1000)...),
	}
	return append(l, append(shared(65), shared(999)...)...)
}

// misplaced are programs whose numbers may be, in which an instruction may be, but not there.
func misplaced() []api.Program {
	l := []api.Program{}
	for _, i := range []api.Ins{
		{Op: api.OpReturn, A: 2},
		{Op: api.OpLoad, B: 2},
		{Op: api.OpConst, A: 15},
		{Op: api.OpJump, Imm: 3},
		{Op: api.OpJump, Imm: 511},
		{Op: api.OpIf, Imm: 3},
		{Op: api.OpCall, Imm: 3},
		{Op: api.OpGo, Imm: 31},
		{Op: api.OpCall, C: 2, Imm: 1},
		{Op: api.OpGo, B: 1, C: 2, Imm: 2},
	} {
		for f := range 3 {
			for pc := range 3 {
				p := of(returns(2, 3), returns(1, 3), returns(2, 3))
				p.Funcs[f].Code[pc] = i
				l = append(l, p)
				// A later one that may not be there, either, is not told.
				q := of(returns(2, 3), returns(1, 3), returns(2, 3))
				q.Funcs[f].Code[pc] = i
				q.Funcs[2].Code[2] = api.Ins{Op: api.OpYield}
				l = append(l, q)
			}
		}
	}
	for f := range 3 {
		p := of(returns(2, 3), returns(1, 3), returns(2, 3))
		p.Funcs[f].Code[2] = api.Ins{Op: api.OpYield}
		l = append(l, p)
	}
	return l
}

// wild are programs that may not be, with what stands on no line.
func wild() []api.Program {
	l := []api.Program{{}, {Mutexes: 1}, {Funcs: []api.Func{}}, of(api.Func{}), of(api.Func{Regs: 1, Code: []api.Ins{{}}})}
	for _, n := range []int{-1, 1000, 1 << 32, 1<<32 + 1, math.MaxInt, math.MinInt} {
		l = append(l, shared(n)...)
		p, q := of(returns(1, 1)), of(returns(1, 1))
		p.Funcs[0].Regs = n
		q.Funcs[0].Code[0].A = n
		l = append(l, p, q)
	}
	return append(l, of(returns(1, 1), api.Func{Regs: 1, Code: []api.Ins{{Op: api.OpReturn, B: 1}}}))
}

// bad are programs that may not be.
func bad() []api.Program {
	return slices.Concat(unnumbered(), misplaced(), wild())
}

// brief is a program in not too many words.
func brief(p api.Program) string {
	return fmt.Sprintf("%.300s", fmt.Sprint(p))
}

// lined are the lines of a program, by the chapter's words; it need not be one that may be, but each of its instructions.
func lined(p api.Program) []string {
	l := []string{"mutexes " + strconv.Itoa(p.Mutexes), "rwlocks " + strconv.Itoa(p.Rwlocks), "groups " + strconv.Itoa(p.Groups)}
	for _, f := range p.Funcs {
		l = append(l, "func "+strconv.Itoa(f.Regs))
		for _, i := range f.Code {
			text, e := instr.Text(i)
			if e != api.OK {
				panic(e)
			}
			l = append(l, text)
		}
	}
	return l
}

// whole is the text of lines.
func whole(lines ...string) string {
	text := ""
	for _, l := range lines {
		text += l + "\n"
	}
	return text
}

// patterns are those of lines with a number, by their words.
var patterns = func() map[string]*regexp.Regexp {
	m := map[string]*regexp.Regexp{}
	for _, w := range []string{"mutexes", "rwlocks", "groups", "func"} {
		m[w] = regexp.MustCompile(`\A` + w + ` (0|[1-9][0-9]?[0-9]?)\z`)
	}
	return m
}()

// number is that of a line with that word.
func number(word, line string) (int, bool) {
	found := patterns[word].FindStringSubmatch(line)
	if found == nil {
		return 0, false
	}
	n, _ := strconv.Atoi(found[1])
	return n, true
}

// parsed is what Parse tells of a text, by the chapter's words.
func parsed(s string) (api.Program, int, api.Errno) {
	lines := strings.Split(s, "\n")
	if lines[len(lines)-1] == "" {
		lines = lines[:len(lines)-1]
	}
	var p api.Program
	where := map[api.Site]int{}
	for at, line := range lines {
		if at < 3 {
			n, is := number([]string{"mutexes", "rwlocks", "groups"}[at], line)
			if !is {
				return api.Program{}, at, api.ErrAsm
			}
			*[]*int{&p.Mutexes, &p.Rwlocks, &p.Groups}[at] = n
			continue
		}
		if regs, is := number("func", line); is {
			p.Funcs = append(p.Funcs, api.Func{Regs: regs})
			continue
		}
		i, e := instr.Parse(line)
		if e != api.OK || at == 3 {
			return api.Program{}, at, api.ErrAsm
		}
		f := len(p.Funcs) - 1
		where[api.Site{Func: f, Pc: len(p.Funcs[f].Code)}] = at
		p.Funcs[f].Code = append(p.Funcs[f].Code, i)
	}
	if site, is := program.Wrong(p); is && len(lines) > 3 {
		return api.Program{}, where[site], api.ErrAsm
	}
	if len(lines) < 4 || program.Check(p) != api.OK || s[len(s)-1] != '\n' {
		return api.Program{}, len(lines), api.ErrAsm
	}
	return p, len(lines), api.OK
}
