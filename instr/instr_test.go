package instr_test

import (
	"bytes"
	"math"
	"slices"
	"strings"
	"testing"

	"linesman/api"
	"linesman/instr"
)

func TestCheck(t *testing.T) { // P8.1
	for _, i := range grid() {
		want := api.ErrArg
		if said(i) {
			want = api.OK
		}
		if got := instr.Check(i); got != want {
			t.Errorf("Check(%v): %v", i, got)
		}
	}
	for _, i := range some() {
		if got := instr.Check(i); got != api.OK {
			t.Errorf("Check(%v): %v", i, got)
		}
	}
}

func TestCheckOfWordsThatAreHandedOn(t *testing.T) { // P8.1
	for b := range 18 {
		for c := range 19 {
			want := api.ErrArg
			if b < 16 && c <= 16 && b+c <= 16 {
				want = api.OK
			}
			for _, op := range []api.Op{api.OpCall, api.OpGo} {
				if got := instr.Check(api.Ins{Op: op, B: b, C: c}); got != want {
					t.Errorf("Check of %v of %d words from %d on: %v", op, c, b, got)
				}
			}
		}
	}
	// Together they are past all numbers, and come to a small one.
	for _, i := range []api.Ins{{Op: api.OpCall, B: math.MinInt, C: math.MinInt}, {Op: api.OpGo, B: math.MaxInt, C: math.MinInt}, {Op: api.OpCall, B: 15, C: math.MaxInt}, {Op: api.OpGo, B: math.MinInt, C: 16}, {Op: api.OpGo, B: -1, C: 17}} {
		if got := instr.Check(i); got != api.ErrArg {
			t.Errorf("Check(%v): %v", i, got)
		}
	}
}

func TestCheckOfWhatIsNotNamed(t *testing.T) { // P8.1
	for _, i := range few() {
		f, _ := formOf(i.Op)
		for part, other := range map[string]api.Ins{
			"A":   {Op: i.Op, A: 1, B: i.B, C: i.C, Imm: i.Imm},
			"B":   {Op: i.Op, A: i.A, B: 1, C: i.C, Imm: i.Imm},
			"C":   {Op: i.Op, A: i.A, B: i.B, C: 1, Imm: i.Imm},
			"Imm": {Op: i.Op, A: i.A, B: i.B, C: i.C, Imm: 1},
		} {
			if got := instr.Check(other); (got == api.OK) != f.names(part) {
				t.Errorf("Check(%v): %v", other, got)
			}
		}
	}
}

func TestTheChaptersExamples(t *testing.T) { // P8.1, P8.2, P8.3
	if got, why := instr.Text(api.Ins{Op: api.OpCall, A: 1, B: 2, C: 3, Imm: 4}); got != "call r1 r2 3 f4" || why != api.OK {
		t.Errorf("Text: %q, %v", got, why)
	}
	if got, why := instr.Parse("less r1 r2 r3"); got != (api.Ins{Op: api.OpArith, A: 1, B: 2, C: 3, Imm: 11}) || why != api.OK {
		t.Errorf("Parse: %v, %v", got, why)
	}
	if got, why := instr.Bytes(api.Ins{Op: api.OpIf, A: 1, Imm: 258}); !bytes.Equal(got, []byte{5, 1, 2, 1, 0, 0}) || why != api.OK {
		t.Errorf("Bytes: %x, %v", got, why)
	}
	if why := instr.Check(api.Ins{Op: api.OpCall, B: 15, C: 2}); why != api.ErrArg {
		t.Errorf("Check: %v", why)
	}
	for text, want := range map[string]api.Errno{"\x06\x10\x00": api.ErrIns, "\x06\x01": api.ErrEnds} {
		if got, many, why := instr.Read([]byte(text)); got != (api.Ins{}) || many != 0 || why != want {
			t.Errorf("Read(%x) = %v, %d, %v", text, got, many, why)
		}
	}
	if got, why := instr.Parse("load r1 r16"); got != (api.Ins{}) || why != api.ErrIns {
		t.Errorf("Parse: %v, %v", got, why)
	}
}

func TestRegs(t *testing.T) { // P8.1
	for _, c := range []struct {
		i    api.Ins
		want int
	}{
		{api.Ins{Op: api.OpConst, A: 0, Imm: 9}, 1},
		{api.Ins{Op: api.OpConst, A: 15, Imm: 9}, 16},
		{api.Ins{Op: api.OpMove, A: 3, B: 7}, 8},
		{api.Ins{Op: api.OpMove, A: 7, B: 3}, 8},
		{api.Ins{Op: api.OpArith, Imm: 12}, 1},
		{api.Ins{Op: api.OpArith, A: 5, B: 4, C: 3, Imm: 12}, 6},
		{api.Ins{Op: api.OpArith, A: 3, B: 5, C: 4, Imm: 1}, 6},
		{api.Ins{Op: api.OpArith, A: 3, B: 4, C: 5, Imm: 1}, 6},
		{api.Ins{Op: api.OpArith, C: 15, Imm: 1}, 16},
		{api.Ins{Op: api.OpJump, Imm: 500}, 0},
		{api.Ins{Op: api.OpIf, A: 2, Imm: 500}, 3},
		{api.Ins{Op: api.OpLoad, A: 2, B: 9}, 10},
		{api.Ins{Op: api.OpStore, A: 9, B: 2}, 10},
		{api.Ins{Op: api.OpCall}, 1},
		{api.Ins{Op: api.OpCall, B: 4, Imm: 31}, 5}, // B, though no word is handed on
		{api.Ins{Op: api.OpCall, A: 6, B: 4, Imm: 31}, 7},
		{api.Ins{Op: api.OpCall, B: 4, C: 1}, 5},
		{api.Ins{Op: api.OpCall, B: 4, C: 2}, 6},
		{api.Ins{Op: api.OpCall, A: 5, B: 4, C: 2}, 6},
		{api.Ins{Op: api.OpCall, A: 6, B: 4, C: 2}, 7},
		{api.Ins{Op: api.OpCall, C: 16}, 16},
		{api.Ins{Op: api.OpCall, B: 15}, 16},
		{api.Ins{Op: api.OpCall, A: 15}, 16},
		{api.Ins{Op: api.OpReturn, A: 1}, 2},
		{api.Ins{Op: api.OpGo}, 1},
		{api.Ins{Op: api.OpGo, Imm: 31}, 1},
		{api.Ins{Op: api.OpGo, B: 7}, 8},
		{api.Ins{Op: api.OpGo, B: 7, C: 1}, 8},
		{api.Ins{Op: api.OpGo, B: 7, C: 9}, 16},
		{api.Ins{Op: api.OpGo, C: 16}, 16},
		{api.Ins{Op: api.OpLock, A: 4}, 5},
		{api.Ins{Op: api.OpUnlock, A: 4}, 5},
		{api.Ins{Op: api.OpRLock, A: 4}, 5},
		{api.Ins{Op: api.OpRUnlock, A: 4}, 5},
		{api.Ins{Op: api.OpWLock, A: 4}, 5},
		{api.Ins{Op: api.OpWUnlock, A: 4}, 5},
		{api.Ins{Op: api.OpCount, A: 4, B: 5}, 6},
		{api.Ins{Op: api.OpCount, A: 5, B: 4}, 6},
		{api.Ins{Op: api.OpWait, A: 4}, 5},
		{api.Ins{Op: api.OpYield}, 0},
	} {
		if got := instr.Regs(c.i); got != c.want {
			t.Errorf("Regs(%v) = %d, not %d", c.i, got, c.want)
		}
	}
}

func TestRegsAreThoseOfTheText(t *testing.T) { // P8.1
	for _, i := range some() {
		want := 0
		for _, w := range strings.Fields(text(i))[1:] {
			for n := range 16 {
				if w == "r"+string("0123456789"[n%10]) && n < 10 || w == "r1"+string("0123456789"[n%10]) && n >= 10 {
					want = max(want, n+1)
				}
			}
		}
		if i.Op == api.OpCall || i.Op == api.OpGo {
			want = max(want, i.B+i.C)
		}
		if got := instr.Regs(i); got != want {
			t.Errorf("Regs(%v) = %d, not %d", i, got, want)
		}
	}
}

func TestLocalAndLeaves(t *testing.T) { // P8.1
	local := []api.Op{api.OpConst, api.OpMove, api.OpArith, api.OpJump, api.OpIf, api.OpCall, api.OpReturn, api.OpYield}
	leaves := []api.Op{api.OpJump, api.OpReturn}
	for _, i := range some() {
		if got := instr.Local(i); got != slices.Contains(local, i.Op) {
			t.Errorf("Local(%v) = %v", i, got)
		}
		if got := instr.Leaves(i); got != slices.Contains(leaves, i.Op) {
			t.Errorf("Leaves(%v) = %v", i, got)
		}
	}
}

func TestWhatIsToldOfNone(t *testing.T) { // P8.1
	for _, i := range grid() {
		if said(i) {
			continue
		}
		if instr.Regs(i) != 0 || instr.Local(i) || instr.Leaves(i) {
			t.Errorf("of %v: %d, %v, %v", i, instr.Regs(i), instr.Local(i), instr.Leaves(i))
		}
	}
}

func TestTextAndParse(t *testing.T) { // P8.3, P8.4
	for _, i := range append(some(), few()...) {
		want := text(i)
		if got, why := instr.Text(i); got != want || why != api.OK {
			t.Errorf("Text(%v) = %q, %v", i, got, why)
		}
		if got, why := instr.Parse(want); got != i || why != api.OK {
			t.Errorf("Parse(%q) = %v, %v", want, got, why)
		}
	}
}

func TestTextsOfEachOp(t *testing.T) { // P8.3
	want := []string{
		"const r11 4023233417", "move r12 r3", "equal r10 r15 r7", "jump 510", "if r1 258", "load r0 r14", "store r14 r0",
		"call r15 r2 13 f31", "return r10", "go r10 6 f20", "lock r5", "unlock r6", "rlock r7", "runlock r8", "wlock r9", "wunlock r10",
		"count r11 r12", "wait r13", "yield",
	}
	for at, i := range few() {
		if got, why := instr.Text(i); got != want[at] || why != api.OK {
			t.Errorf("Text(%v) = %q, %v", i, got, why)
		}
		if got, why := instr.Parse(want[at]); got != i || why != api.OK {
			t.Errorf("Parse(%q) = %v, %v", want[at], got, why)
		}
	}
	for k, name := range kinds {
		i := api.Ins{Op: api.OpArith, A: 1, B: 2, C: 3, Imm: uint32(k + 1)}
		if got, why := instr.Text(i); got != name+" r1 r2 r3" || why != api.OK {
			t.Errorf("Text(%v) = %q, %v", i, got, why)
		}
		if got, why := instr.Parse(name + " r1 r2 r3"); got != i || why != api.OK {
			t.Errorf("Parse of %s = %v, %v", name, got, why)
		}
	}
}

func TestTextAndBytesRefuse(t *testing.T) { // P8.2, P8.3
	for _, i := range grid() {
		if said(i) {
			continue
		}
		if got, why := instr.Text(i); got != "" || why != api.ErrArg {
			t.Errorf("Text(%v) = %q, %v", i, got, why)
		}
		if got, why := instr.Bytes(i); got != nil || why != api.ErrArg {
			t.Errorf("Bytes(%v) = %x, %v", i, got, why)
		}
	}
}

// noTexts are texts that no instruction has.
func noTexts() []string {
	l := []string{
		"", " ", "  ", "\n", "\x00", "\xff", "r", "r1", "f1", "1", "-", "kind", "kind r1 r2 r3", "none", "arith r1 r2 r3", "11 r1 r2 r3", "3 r1 r2 r3 11",
		"yield ", " yield", "yield r0", "yield 0", "yield yield", "Yield", "YIELD", "yiel", "yields", "yield\n", "yield\x00", "yield\t",
		"jump", "jump ", "jump r1", "jump f1", "jump -1", "jump -0", "jump +1", "jump 01", "jump 00", "jump 512", "jump 513", "jump 999", "jump 65536", "jump 4294967295", "jump 4294967296", "jump 4294967297", "jump 18446744073709551616", "jump 18446744073709551617", "jump 1 ", "jump  1", "jump\t1", "jump 1 2", "jump 1.0", "jump 0x1", "jump 1_0", "jump １", "jump ١",
		"const r1", "const r1 ", "const 1 1", "const r1 r1", "const r1 -1", "const r1 4294967296", "const r1 4294967297", "const r1 01", "const r1 +1", "const r1 1 ", "const r1  1", "const  r1 1", "const r16 1", "const r-1 1", "const r01 1", "const r 1", "const r1 f1", "const r4294967297 1", "const r18446744073709551617 1", "const R1 1", "const r1 1 1",
		"move r1", "move r1 r16", "move r16 r1", "move r1 2", "move 1 r2", "move r1 r2 r3", "move r1r2", "move r1,r2", "move rr1 r2", "move r1 rr2",
		"add r1 r2", "add r1 r2 r3 r4", "add r1 r2 3", "add r1 r2 r16", "add r1 r16 r2", "add r16 r1 r2", "add r1 r2 r3 1", "add", "add ", "ADD r1 r2 r3", "addd r1 r2 r3", "ad r1 r2 r3", "equals r1 r2 r3", " add r1 r2 r3",
		"if r1", "if 1 1", "if r1 512", "if r16 1", "if r1 r1", "if 1 r1",
		"load r1 r16", "load r1", "load", "store r16 r1", "store r1 1", "load r1 0",
		"call r1 r2 3", "call r1 r2 3 4", "call r1 r2 r3 f4", "call r1 r2 f4", "call r1 r2 3 f32", "call r1 r2 15 f4", "call r0 r15 2 f0", "call r0 r0 17 f0", "call r0 r16 0 f0", "call r1 2 3 f4", "call 1 r2 3 f4", "call r1 r2 03 f4", "call r1 r2 3 f04", "call r1 r2 -1 f4", "call r1 r2 3 f-1", "call r1 r2 3 F4", "call r1 r2 3 ff4", "call r1 r2 3 f4 ", "call r1 r2 3 f4 f5", "call r1 r2 3f4", "call r0 r15 18446744073709551602 f0", "call r0 r15 4294967282 f0", "call r0 r0 4294967296 f0", "call r0 r0 0 f4294967296",
		"return", "return 1", "return r16", "return r1 r1", "return r1 ", "return f1",
		"go r1 2", "go r1 2 3", "go r1 r2 2 f3", "go 1 2 f3", "go r1 f3", "go r1 16 f3", "go r0 17 f3", "go r16 0 f3", "go r1 2 f32", "go r0 r1 2 f3",
		"lock", "lock 1", "lock m1", "lock r16", "unlock r16", "rlock r16", "runlock r16", "wlock r16", "wunlock r16", "lock r1 r2", "Lock r1", "locks r1", "rwlock r1", "rulock r1",
		"count r1", "count r1 1", "count r1 -1", "count r16 r1", "count r1 r16", "wait", "wait 1", "wait r16", "wait r1 r1",
		"# yield", "yield # x", "yield;", "f0: yield", "jump f0:1",
	}
	for _, long := range []string{strings.Repeat("0", 1<<20), strings.Repeat("9", 1<<20), strings.Repeat("r", 1<<20), strings.Repeat(" ", 1<<20), strings.Repeat("yield ", 1<<18), strings.Repeat("add r1 r2 r3 ", 1<<16)} {
		l = append(l, long, "jump "+long, "const r1 "+long, "const r"+long+" 1", "yield"+long, long+"yield", "call r1 r2 "+long+" f4")
	}
	return l
}

func TestParseRefuses(t *testing.T) { // P8.3
	for _, s := range noTexts() {
		if got, why := instr.Parse(s); got != (api.Ins{}) || why != api.ErrIns {
			t.Errorf("Parse(%.40q), of %d bytes, = %v, %v", s, len(s), got, why)
		}
	}
	for _, i := range grid() {
		if _, is := formOf(i.Op); !is || said(i) || i.Op == api.OpArith && (i.Imm < 1 || i.Imm > 12) {
			continue
		}
		s := text(i)
		// One whose text doesn't have what may not be has another one's text.
		if want, is := parsed(all, s); is {
			if got, why := instr.Parse(s); got != want || why != api.OK {
				t.Errorf("Parse(%q) = %v, %v", s, got, why)
			}
			continue
		}
		if got, why := instr.Parse(s); got != (api.Ins{}) || why != api.ErrIns {
			t.Errorf("Parse(%q) = %v, %v", s, got, why)
		}
	}
}

// all are the patterns by which texts are held against the chapter.
var all = patterns()

func TestParseOfATextWithOneByteOtherwise(t *testing.T) { // P8.3
	tells := func(s string) {
		want, is := parsed(all, s)
		e := api.OK
		if !is {
			want, e = api.Ins{}, api.ErrIns
		}
		if got, why := instr.Parse(s); got != want || why != e {
			t.Errorf("Parse(%q) = %v, %v, not %v, %v", s, got, why, want, e)
		}
	}
	for _, i := range few() {
		whole := text(i)
		tells(whole)
		for at := range len(whole) {
			tells(whole[:at])
			tells(whole[at:])
			tells(whole[:at] + whole[at+1:])
			tells(whole[:at] + whole[at:at+1] + whole[at:])
			for one := range 256 {
				tells(whole[:at] + string([]byte{byte(one)}) + whole[at+1:])
				tells(whole[:at] + string([]byte{byte(one)}) + whole[at:])
			}
		}
		for one := range 256 {
			tells(whole + string([]byte{byte(one)}))
		}
	}
}

func TestParseOfWordsOfOthers(t *testing.T) { // P8.3
	for _, i := range few() {
		for _, j := range few() {
			first, _, _ := strings.Cut(text(i), " ")
			_, rest, _ := strings.Cut(text(j), " ")
			s := strings.TrimSuffix(first+" "+rest, " ")
			want, is := parsed(all, s)
			got, why := instr.Parse(s)
			if is && (got != want || why != api.OK) || !is && (got != (api.Ins{}) || why != api.ErrIns) {
				t.Errorf("Parse(%q) = %v, %v", s, got, why)
			}
		}
	}
}
