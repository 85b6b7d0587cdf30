package asm

import (
	"strconv"
	"strings"

	"linesman/api"
	"linesman/instr"
	"linesman/program"
)

// most is the greatest number that a line has; whether a program's may be so great is told at the end.
const most = 999

// reader is a program under way: what lines have told of it so far, and how many they are.
type reader struct {
	api.Program
	many int
}

// text reads a whole one.
func (r *reader) text(s string) {
	for left := s; left != ""; r.many++ {
		line, rest, _ := strings.Cut(left, end)
		r.line(line)
		left = rest
	}
	if program.Check(r.Program) != api.OK || !strings.HasSuffix(s, end) {
		panic(r.wrong())
	}
}

// line reads the next one.
func (r *reader) line(line string) {
	firsts := heads(&r.Program)
	switch {
	case r.many < len(firsts):
		h := firsts[r.many]
		*h.number = read(r, line, behind(h.word))
	case len(r.Funcs) == 0 || strings.HasPrefix(line, function+blank):
		regs := read(r, line, behind(function))
		r.Funcs = append(r.Funcs, api.Func{Regs: regs})
	default:
		i := read(r, line, instr.Parse)
		f := &r.Funcs[len(r.Funcs)-1]
		f.Code = append(f.Code, i)
	}
}

// wrong tells where a text is that whose lines are such as must stand there: at what may not be in the program, or at the end.
func (r *reader) wrong() refusal {
	if s, is := program.Wrong(r.Program); is {
		return refusal(lineOf(r.Program, s))
	}
	return refusal(r.many)
}

// read tells what the next line is; it gives up if that is refused.
func read[T any](r *reader, line string, one func(line string) (T, api.Errno)) T {
	thing, e := one(line)
	if e != api.OK {
		panic(refusal(r.many))
	}
	return thing
}

// behind reads the number of a line that has it behind that word.
func behind(word string) func(line string) (int, api.Errno) {
	return func(line string) (int, api.Errno) {
		digits := strings.TrimPrefix(line, word+blank)
		n, err := strconv.Atoi(digits)
		// A sign and noughts ahead were read, too, and so was a number alone: only the line that is told is taken.
		if err != nil || n < 0 || n > most || line != numbered(word, n) {
			return 0, api.ErrAsm
		}
		return n, api.OK
	}
}

// refusal is what is given up with: the number of the line that is told.
type refusal int

// told tells the line of what was recovered. It is a refusal: anything else is no answer, and panics on.
func told(up any) int {
	return int(up.(refusal))
}
