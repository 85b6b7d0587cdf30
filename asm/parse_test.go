package asm_test

import (
	"slices"
	"strconv"
	"strings"
	"testing"

	"linesman/api"
	"linesman/asm"
	"linesman/program"
)

// reads sees to it that a text is told as that of a program, and of so many lines.
func reads(t *testing.T, s string, p api.Program, many int) {
	t.Helper()
	if got, line, e := asm.Parse(s); e != api.OK || line != many || !program.Same(got, p) {
		t.Errorf("Parse(%.200q) = %s, %d, %v", s, brief(got), line, e)
	}
}

// refuses sees to it that a text is told as no program's, at a line.
func refuses(t *testing.T, s string, where int) {
	t.Helper()
	got, line, e := asm.Parse(s)
	if e != api.ErrAsm || line != where || got.Funcs != nil || !program.Same(got, api.Program{}) {
		t.Errorf("Parse(%.200q) = %s, %d, %v, not %d", s, brief(got), line, e, where)
	}
}

// agrees sees to it that a text is told as the chapter's words say.
func agrees(t *testing.T, s string) {
	t.Helper()
	p, line, e := parsed(s)
	if e != api.OK {
		refuses(t, s, line)
		return
	}
	reads(t, s, p, line)
	if again, e := asm.Print(p); again != s || e != api.OK {
		t.Errorf("Print of Parse(%.200q) = %.200q, %v", s, again, e)
	}
}

func TestParse(t *testing.T) { // P11.2
	for _, p := range append(good(), full()) {
		lines := lined(p)
		reads(t, whole(lines...), p, len(lines))
	}
	reads(t, whole(smallLines()...), small(), 26)
}

// nones are lines that are none with that word and a number.
func nones(word string) []string {
	l := []string{
		"", " ", "W", "W ", "W  1", "W 1 ", " W 1", "W\t1", "W1", "W 1\r", "\rW 1", "W 1\t", "W 1\x00", "\x00", "\xff", "W \xff", "W 1\xff", "\xefW 1", "\ufeffW 1",
		"W 00", "W 01", "W 001", "W 000", "W -0", "W -1", "W +1", "W +0", "W 1000", "W 9999", "W 65536", "W 4294967296", "W 4294967297", "W 18446744073709551616", "W 18446744073709551617", "W 9223372036854775808", "W -9223372036854775808",
		"W 1.0", "W 0x1", "W 1_0", "W 1e0", "W １", "W ١", "W x", "W r1", "W f1", "W W", "W 1 1", "W 1 W 1", "W: 1", "W=1", "W 1 # x", "# W 1",
		"1", "1 W", "0", "X 1", "Xs 1", "Wx 1", "xW 1", "mutex 1", "rwlock 1", "group 1", "fun 1", "function 1", "r0", "yield ", " return r0", "r eturn r0",
		"W " + strings.Repeat("0", 1<<20), "W " + strings.Repeat("9", 1<<20), "W 1" + strings.Repeat(" ", 1<<20), strings.Repeat("W", 1<<18), "W" + strings.Repeat(" 1", 1<<18),
	}
	for at, s := range l {
		s = strings.ReplaceAll(s, "W", word)
		l[at] = strings.ReplaceAll(s, "X", strings.ToUpper(word))
	}
	for _, other := range []string{"mutexes", "rwlocks", "groups", "func"} {
		if other != word {
			l = append(l, other+" 1")
		}
	}
	return l
}

// at is lines with another one there.
func at(lines []string, where int, line string) []string {
	lines = slices.Clone(lines)
	lines[where] = line
	return lines
}

func TestParseOfALineThatMayNotStandThere(t *testing.T) { // P11.2
	for where, word := range []string{"mutexes", "rwlocks", "groups", "func"} {
		for _, none := range append(nones(word), "return r0", "yield") {
			lines := at(smallLines(), where, none)
			refuses(t, whole(lines...), where)
			refuses(t, whole(lines[:where+1]...), where)
			if none != "" {
				refuses(t, strings.TrimSuffix(whole(lines[:where+1]...), "\n"), where)
			}
		}
	}
	// Where a function stands that is not the first one, or an instruction.
	nor := append(nones("func"), "load r1 r16", "load r1", "jump 512", "call r0 r15 2 f0", "call r0 r0 0 f32", "const r1 4294967296", "const r1 -1", "arith r1 r1 r1", "return  r0", "return r0 ", "RETURN r0", "return r0\r")
	for where := 4; where < len(smallLines()); where++ {
		for _, none := range nor {
			if len(none) > 100 && where%7 > 0 {
				continue
			}
			lines := at(smallLines(), where, none)
			refuses(t, whole(lines...), where)
			refuses(t, whole(lines[:where+1]...), where)
		}
	}
}

func TestTheFirstLineThatMayNotStandThereIsTold(t *testing.T) { // P11.2
	for where := range smallLines() {
		for behind := where; behind < len(smallLines()); behind++ {
			refuses(t, whole(at(at(smallLines(), behind, "x"), where, "x")...), where)
		}
		// It goes ahead of numbers, and of instructions, that may not be.
		lines := at(slices.Concat(smallLines(), []string{"func 0", "return r0", "jump 511", "load r15 r15", "yield"}), where, "x")
		refuses(t, whole(lines...), where)
		if where > 0 {
			refuses(t, whole(at(lines, 0, "mutexes 999")...), where)
		}
		if where > 4 {
			refuses(t, whole(at(lines, 4, "load r15 r15")...), where)
			refuses(t, whole(at(lines, 3, "func 17")...), where)
		}
	}
	// Too many functions, too many instructions come ahead of it, and are not told.
	p := slices.Repeat([]string{"func 1", "return r0"}, 40)
	refuses(t, whole(slices.Concat(lined(tiny()), p, []string{"x"})...), 85)
	refuses(t, whole(slices.Concat(lined(tiny()), slices.Repeat([]string{"yield"}, 600), []string{"return"})...), 605)
}

func TestParseOfNumbers(t *testing.T) { // P11.2
	for n := range 1002 {
		for where := range 4 {
			lines := lined(tiny())
			word, _, _ := strings.Cut(lines[where], " ")
			lines[where] = word + " " + strconv.Itoa(n)
			least, most := 0, 64
			if word == "func" {
				least, most = 1, 16
			}
			p := tiny()
			*[]*int{&p.Mutexes, &p.Rwlocks, &p.Groups, &p.Funcs[0].Regs}[where] = n
			switch {
			case n > 999:
				refuses(t, whole(lines...), where)
			case n < least || n > most:
				refuses(t, whole(lines...), 5)
			default:
				reads(t, whole(lines...), p, 5)
			}
		}
	}
}

func TestParseOfLinesThatLack(t *testing.T) { // P11.2
	refuses(t, "", 0)
	heads := smallLines()[:3]
	for many := range 4 {
		text := whole(heads[:many]...)
		refuses(t, text, many)
		refuses(t, strings.TrimSuffix(text, "\n"), many)
	}
	for _, n := range []string{"65", "999"} {
		lines := []string{"mutexes " + n, "rwlocks " + n, "groups " + n}
		for many := range 4 {
			refuses(t, whole(lines[:many]...), many)
		}
	}
	// A line that is empty is one, and none that may stand there.
	refuses(t, "\n", 0)
	refuses(t, "\n\n\n\n", 0)
	refuses(t, whole(heads...)+"\n", 3)
}

func TestParseOfInstructionsThatMayNotBeThere(t *testing.T) { // P11.2
	for _, p := range misplaced() {
		s, is := program.Wrong(p)
		if !is {
			t.Fatalf("%v", p)
		}
		text := whole(lined(p)...)
		// Three lines, and each function's own one, that has three instructions.
		want := 3 + 4*s.Func + 1 + s.Pc
		refuses(t, text, want)
		// It goes ahead of the end that lacks.
		refuses(t, strings.TrimSuffix(text, "\n"), want)
	}
	lines := smallLines()
	refuses(t, whole(at(lines, 16, "call r0 r0 12 f3")...), 16)
	refuses(t, whole(at(lines, 16, "call r0 r0 4 f2")...), 16)
	refuses(t, whole(at(lines, 9, "jump 9")...), 9)
	refuses(t, whole(at(lines, 25, "yield")...), 25)
	refuses(t, whole(at(lines, 12, "yield")...), 12)
	refuses(t, whole(at(lines, 23, "func 2")...), 25)
}

func TestParseOfNumbersThatMayNotBe(t *testing.T) { // P11.2
	for _, p := range unnumbered() {
		lines := lined(p)
		refuses(t, whole(lines...), len(lines))
		refuses(t, strings.TrimSuffix(whole(lines...), "\n"), len(lines))
		// No site is told then, though some instruction may not be there.
		lines = append(lines, "func 1", "load r1 r2")
		refuses(t, whole(lines...), len(lines))
	}
	refuses(t, whole(slices.Insert(smallLines(), 4, "func 1")...), 27)
	refuses(t, whole(append(smallLines(), "func 1")...), 27)
}

func TestParseOfATextThatDoesNotEnd(t *testing.T) { // P11.2
	for _, p := range append(good(), full()) {
		lines := lined(p)
		refuses(t, strings.TrimSuffix(whole(lines...), "\n"), len(lines))
	}
}

func TestParseOfSomethingBehind(t *testing.T) { // P11.2
	for _, p := range []api.Program{tiny(), small()} {
		lines := lined(p)
		text := whole(lines...)
		for _, behind := range []string{"\n", "\n\n", " ", " \n", "\x00", "\r\n", "x", "x\n", "mutexes 1\n", text} {
			refuses(t, text+behind, len(lines))
		}
		refuses(t, text+"yield\n", len(lines))
		refuses(t, text+"yield", len(lines))
		refuses(t, text+"return r0", len(lines)+1)
		refuses(t, text+"func 1", len(lines)+1)
		refuses(t, text+"func 1\n", len(lines)+1)
		refuses(t, text+"func 1\nyield", len(lines)+1)
		refuses(t, text+"func 1\nreturn r0", len(lines)+2)
		p.Funcs = append(p.Funcs, returns(1, 2))
		reads(t, text+"func 1\nreturn r0\nreturn r0\n", p, len(lines)+3)
	}
}

func TestParseOfATextWithAByteOtherwise(t *testing.T) { // P11.2, P11.3
	some := []byte("\n\r\t\x00 -+019rf#x\x80\xff")
	all := make([]byte, 256)
	for one := range all {
		all[one] = byte(one)
	}
	for _, c := range []struct {
		text  string
		bytes []byte
	}{{whole(lined(tiny())...), all}, {whole(smallLines()...), some}} {
		agrees(t, c.text)
		for where := range len(c.text) {
			ahead, behind := c.text[:where], c.text[where:]
			agrees(t, ahead)
			agrees(t, behind)
			agrees(t, ahead+behind[1:])
			agrees(t, ahead+behind[:1]+behind)
			for _, one := range c.bytes {
				agrees(t, ahead+string([]byte{one})+behind)
				agrees(t, ahead+string([]byte{one})+behind[1:])
			}
		}
	}
}

func TestParseOfOtherLines(t *testing.T) { // P11.2, P11.3
	lines := smallLines()
	for where := range lines {
		agrees(t, whole(slices.Delete(slices.Clone(lines), where, where+1)...))
		agrees(t, whole(slices.Insert(slices.Clone(lines), where, "")...))
		for from := range lines {
			agrees(t, whole(at(lines, where, lines[from])...))
			agrees(t, whole(slices.Insert(slices.Clone(lines), where, lines[from])...))
			agrees(t, whole(at(at(lines, where, lines[from]), from, lines[where])...))
			agrees(t, whole(slices.Delete(slices.Clone(lines), min(where, from), max(where, from))...))
		}
	}
	agrees(t, strings.ReplaceAll(whole(lines...), "\n", "\r\n"))
	agrees(t, strings.ReplaceAll(whole(lines...), "\n", "\r"))
	agrees(t, strings.ReplaceAll(whole(lines...), "\n", "\n\n"))
	agrees(t, strings.ReplaceAll(whole(lines...), "\n", " "))
	agrees(t, strings.ToUpper(whole(lines...)))
}

func TestParseOfLongTexts(t *testing.T) { // P11.2
	heads := whole(smallLines()[:3]...)
	for _, s := range []string{strings.Repeat("\n", 1<<20), strings.Repeat("0", 1<<20), strings.Repeat("\xff", 1<<20), strings.Repeat("mutexes 1\n", 1<<16), heads + strings.Repeat("func 1\n", 1<<16), heads + "func 1\n" + strings.Repeat("yield\n", 1<<14), heads + strings.Repeat("func 1\nreturn r0\n", 1<<13), heads + "func " + strings.Repeat("1", 1<<20), heads + "func 1\n" + strings.Repeat("return r0 ", 1<<17), heads + "func 1\n" + strings.Repeat("r", 1<<20) + "\n"} {
		agrees(t, s)
	}
}

func TestAProgramIsNewMemory(t *testing.T) { // P11.2
	text := whole(smallLines()...)
	p, _, _ := asm.Parse(text)
	other, _, _ := asm.Parse(text)
	spoil(p)
	if !program.Same(other, small()) {
		t.Errorf("%v", other)
	}
	// Nor do its own lists share any.
	for where := range other.Funcs {
		code := other.Funcs[where].Code
		for pc := range code[:cap(code)] {
			code[:cap(code)][pc] = api.Ins{Op: 99}
		}
		for behind := where + 1; behind < len(other.Funcs); behind++ {
			if !slices.Equal(other.Funcs[behind].Code, small().Funcs[behind].Code) {
				t.Errorf("function %d, when %d changes: %v", behind, where, other.Funcs[behind])
			}
		}
	}
	reads(t, text, small(), 26)
}
