package asm

import (
	"iter"
	"strconv"

	"linesman/api"
	"linesman/instr"
	"linesman/program"
)

const (
	// blank stands between words, end behind each line.
	blank = " "
	end   = "\n"
	// function begins the line of one.
	function = "func"
)

// head is a number of a program that has a line of its own, behind a word.
type head struct {
	word   string
	number *int
}

// heads are those with which the lines begin.
func heads(p *api.Program) [3]head {
	return [...]head{
		{"mutexes", &p.Mutexes},
		{"rwlocks", &p.Rwlocks},
		{"groups", &p.Groups},
	}
}

// lines goes over those of a program that may be, each with its number.
func lines(p api.Program) iter.Seq2[int, string] {
	return func(yield func(int, string) bool) {
	parts:
		for begun, l := range parts(p) {
			for many, line := range l {
				if !yield(begun+many, line) {
					break parts
				}
			}
		}
	}
}

// parts goes over the lines of the heads, then over those of each function, with the number of the first one of each.
func parts(p api.Program) iter.Seq2[int, []string] {
	return func(yield func(int, []string) bool) {
		many := 0
		tell := func(texts ...string) bool {
			begun := many
			many += len(texts)
			return yield(begun, texts)
		}
		if !tell(headLines(p)...) {
			return
		}
		for _, f := range p.Funcs {
			if !tell(functionLines(f)...) {
				return
			}
		}
	}
}

// headLines are those of the heads.
func headLines(p api.Program) []string {
	var l []string
	for _, h := range heads(&p) {
		l = append(l, numbered(h.word, *h.number))
	}
	return l
}

// functionLines are those of a function whose instructions may be.
func functionLines(f api.Func) []string {
	l := []string{numbered(function, f.Regs)}
	for _, i := range f.Code {
		text, _ := instr.Text(i)
		l = append(l, text)
	}
	return l
}

// numbered is the line of a word and a number.
func numbered(word string, n int) string {
	return word + blank + strconv.Itoa(n)
}

// lineOf is the number of the line of a site that is there.
func lineOf(p api.Program, s api.Site) int {
	ahead := p
	ahead.Funcs = p.Funcs[:s.Func]
	// Each function ahead, and its own one, has a line besides those of its instructions.
	return len(heads(&p)) + program.Len(ahead) + s.Func + 1 + s.Pc
}
