package instr_test

import (
	"bytes"
	"iter"
	"math"
	"slices"
	"testing"

	"linesman/api"
	"linesman/instr"
)

// reads sees to it that Read tells what the chapter says of bytes.
func reads(t *testing.T, b []byte) {
	t.Helper()
	want, much, e := read(b)
	if got, many, why := instr.Read(b); got != want || many != much || why != e {
		t.Errorf("Read(%x) = %v, %d, %v, not %v, %d, %v", b, got, many, why, want, much, e)
	}
}

func TestBytesAndRead(t *testing.T) { // P8.2, P8.4
	for _, i := range append(some(), few()...) {
		want := raw(i)
		if got, why := instr.Bytes(i); !bytes.Equal(got, want) || why != api.OK {
			t.Errorf("Bytes(%v) = %x, %v", i, got, why)
		}
		for _, behind := range [][]byte{nil, {0}, {255, 255}, {6, 1, 1}, make([]byte, 100)} {
			if got, many, why := instr.Read(append(raw(i), behind...)); got != i || many != len(want) || why != api.OK {
				t.Errorf("Read(%x, %x) = %v, %d, %v", want, behind, got, many, why)
			}
		}
	}
}

func TestBytesOfEachOp(t *testing.T) { // P8.2
	want := []string{
		"\x01\x0b\x89\x67\xcd\xef", "\x02\x0c\x03", "\x03\x0a\x0f\x07\x0c\x00\x00\x00", "\x04\xfe\x01\x00\x00", "\x05\x01\x02\x01\x00\x00", "\x06\x00\x0e", "\x07\x0e\x00",
		"\x08\x0f\x02\x0d\x1f\x00\x00\x00", "\x09\x0a", "\x0a\x0a\x06\x14\x00\x00\x00", "\x0b\x05", "\x0c\x06", "\x0d\x07", "\x0e\x08", "\x0f\x09", "\x10\x0a",
		"\x11\x0b\x0c", "\x12\x0d", "\x13",
	}
	l := few()
	l[0].Imm = 0xefcd6789
	for at, i := range l {
		if got, why := instr.Bytes(i); string(got) != want[at] || why != api.OK {
			t.Errorf("Bytes(%v) = %x, %v", i, got, why)
		}
		if got, many, why := instr.Read([]byte(want[at])); got != i || many != len(want[at]) || why != api.OK {
			t.Errorf("Read(%x) = %v, %d, %v", want[at], got, many, why)
		}
	}
}

func TestReadOfEachOp(t *testing.T) { // P8.2
	for op := range 256 {
		for many := range 10 {
			b := make([]byte, many+1)
			b[0] = byte(op)
			reads(t, b)
			for at := range many {
				b[at+1] = 255
			}
			reads(t, b)
		}
		if op < 1 || op > 19 {
			if got, many, why := instr.Read([]byte{byte(op)}); got != (api.Ins{}) || many != 0 || why != api.ErrIns {
				t.Errorf("Read(%x) = %v, %d, %v", op, got, many, why)
			}
		}
	}
}

func TestReadOfBytesThatEnd(t *testing.T) { // P8.2
	ends := func(b []byte) {
		if got, many, why := instr.Read(b); got != (api.Ins{}) || many != 0 || why != api.ErrEnds {
			t.Errorf("Read(%x) = %v, %d, %v", b, got, many, why)
		}
	}
	ends(nil)
	ends([]byte{})
	for _, i := range some() {
		// What is behind the end is no byte of it, though there is room.
		whole := raw(i)
		for many := range len(whole) {
			ends(whole[:many])
		}
	}
	// That they end goes ahead of what may not be.
	for _, i := range few() {
		whole := raw(i)
		for many := 1; many < len(whole); many++ {
			ends(append([]byte{byte(i.Op)}, bytes.Repeat([]byte{255}, many-1)...))
		}
	}
}

func TestReadOfAByteOtherwise(t *testing.T) { // P8.2
	for _, i := range append(few(), api.Ins{Op: api.OpCall, B: 15, C: 1}, api.Ins{Op: api.OpGo, C: 16}, api.Ins{Op: api.OpArith, Imm: 1}) {
		whole := raw(i)
		for at := range whole {
			for one := range 256 {
				b := slices.Clone(whole)
				b[at] = byte(one)
				reads(t, b)
				reads(t, append(b, 0, 0, 0, 0, 0, 0, 0, 0))
			}
		}
	}
}

func TestReadOfTwoBytes(t *testing.T) { // P8.2
	for _, op := range []byte{2, 6, 7, 17} {
		for a := range 256 {
			for b := range 256 {
				reads(t, []byte{op, byte(a), byte(b)})
			}
		}
	}
	for _, op := range []byte{8, 10} {
		for b := range 256 {
			for c := range 256 {
				reads(t, []byte{op, byte(b), byte(c), 0, 0, 0, 0})
				reads(t, []byte{op, 0, byte(b), byte(c), 31, 0, 0, 0})
			}
		}
	}
}

func TestNoBytesBeginOthers(t *testing.T) { // P8.4
	of := map[string]api.Ins{}
	for _, i := range some() {
		b, _ := instr.Bytes(i)
		if other, is := of[string(b)]; is {
			t.Errorf("%x are those of %v, and of %v", b, other, i)
		}
		of[string(b)] = i
	}
	for b, i := range of {
		for many := range len(b) {
			if other, is := of[b[:many]]; is {
				t.Errorf("the bytes of %v begin those of %v", other, i)
			}
		}
	}
}

func TestWhatIsReadIsToldAgain(t *testing.T) { // P8.4
	for op := range 20 {
		for one := range 256 {
			b := bytes.Repeat([]byte{byte(one)}, 8)
			b[0] = byte(op)
			clear(b[5:])
			i, many, why := instr.Read(b)
			if why != api.OK {
				continue
			}
			if got, why := instr.Bytes(i); !bytes.Equal(got, b[:many]) || why != api.OK {
				t.Errorf("Read(%x), Bytes: %x, %v", b, got, why)
			}
			text, _ := instr.Text(i)
			if got, why := instr.Parse(text); got != i || why != api.OK {
				t.Errorf("Read(%x), Text, Parse: %v, %v", b, got, why)
			}
		}
	}
	for _, i := range some() {
		s := text(i)
		got, why := instr.Parse(s)
		if again, e := instr.Text(got); again != s || why != api.OK || e != api.OK {
			t.Errorf("Parse(%q), Text: %q, %v, %v", s, again, why, e)
		}
	}
}

func TestBytesAreNewAndReadChangesNone(t *testing.T) { // P8.2
	for _, i := range few() {
		b, _ := instr.Bytes(i)
		other, _ := instr.Bytes(i)
		for at := range b[:cap(b)] {
			b[:cap(b)][at] = 0xaa
		}
		if again, _ := instr.Bytes(i); !bytes.Equal(other, raw(i)) || !bytes.Equal(again, raw(i)) {
			t.Errorf("Bytes(%v) = %x, then %x", i, other, again)
		}
		room := append(raw(i), 7, 8, 9)
		if _, _, why := instr.Read(room[:len(room)-3]); why != api.OK || !bytes.Equal(room, append(raw(i), 7, 8, 9)) {
			t.Errorf("Read(%x): %v", room, why)
		}
	}
}

// told is what a walk told once.
type told struct {
	at int
	i  api.Ins
}

// first are the first few of what a walk tells.
func first(many int, s iter.Seq2[int, api.Ins]) []told {
	var l []told
	if many == 0 {
		return l
	}
	for at, i := range s {
		l = append(l, told{at, i})
		if len(l) == many {
			break
		}
	}
	return l
}

// row are the bytes of some, one behind the other, and where each begins.
func row(l ...api.Ins) ([]byte, []told) {
	var b []byte
	var where []told
	for _, i := range l {
		where = append(where, told{len(b), i})
		b = append(b, raw(i)...)
	}
	return b, where
}

func TestEach(t *testing.T) { // P8.2
	for _, l := range [][]api.Ins{nil, few(), some(), {{Op: api.OpYield}, {Op: api.OpYield}}, {{Op: api.OpConst, A: 1, Imm: math.MaxUint32}}} {
		b, want := row(l...)
		if got := first(-1, instr.Each(b)); !slices.Equal(got, want) {
			t.Errorf("Each(%.40x): %v, not %v", b, got, want)
		}
	}
	for _, b := range [][]byte{nil, {}} {
		walk := instr.Each(b)
		if walk == nil || first(-1, walk) != nil {
			t.Errorf("Each(%v)", b)
		}
	}
}

func TestEachEndsAtWhatIsNone(t *testing.T) { // P8.2
	b, want := row(few()...)
	for _, behind := range [][]byte{{0}, {20}, {255}, {6, 16, 0}, {6, 1}, {0, 19}, {4, 0, 2, 0, 0, 19}, {3, 1, 1, 1, 13, 0, 0, 0, 19}, {8, 0, 15, 2, 0, 0, 0, 0, 19}, {1}} {
		if got := first(-1, instr.Each(append(slices.Clone(b), behind...))); !slices.Equal(got, want) {
			t.Errorf("Each, with %x at its end: %v", behind, got)
		}
		if got := first(-1, instr.Each(append(behind, 255))); got != nil {
			t.Errorf("Each(%x): %v", behind, got)
		}
	}
	for many := range b {
		var whole []told
		for _, w := range want {
			if w.at+len(raw(w.i)) <= many {
				whole = append(whole, w)
			}
		}
		if got := first(-1, instr.Each(b[:many])); !slices.Equal(got, whole) {
			t.Errorf("Each of %d bytes: %v", many, got)
		}
	}
}

func TestAWalkIsLeft(t *testing.T) { // P8.2
	b, want := row(few()...)
	walk := instr.Each(b)
	for many := range len(want) + 1 {
		if got := first(many, walk); !slices.Equal(got, want[:many]) {
			t.Errorf("the first %d: %v", many, got)
		}
		if got := first(-1, walk); !slices.Equal(got, want) {
			t.Errorf("gone over again, behind %d: %v", many, got)
		}
	}
	some := 0
	for at, i := range walk {
		if got := first(some+1, walk); got[some] != (told{at, i}) {
			t.Errorf("within itself, at %d: %v", at, got)
		}
		some++
	}
	for many := range 4 {
		calls := 0
		instr.Each(b)(func(int, api.Ins) bool {
			calls++
			return calls <= many
		})
		if calls != many+1 {
			t.Errorf("left at %d, it told %d", many+1, calls)
		}
	}
}

func TestAWalkGoesOverTheBytesAsTheyWere(t *testing.T) { // P8.2
	b, want := row(few()...)
	before := slices.Clone(b)
	walk := instr.Each(b)
	if first(-1, walk); !bytes.Equal(b, before) {
		t.Errorf("Each changed its bytes: %x", b)
	}
	var got []told
	for at, i := range walk {
		got = append(got, told{at, i})
		clear(b)
	}
	if !slices.Equal(got, want) {
		t.Errorf("while they are cleared: %v", got)
	}
	if got := first(-1, walk); !slices.Equal(got, want) {
		t.Errorf("once more: %v", got)
	}
	// What stands behind the end, where there is room, is none of them.
	room, _ := row(few()...)
	walk = instr.Each(room[:3:len(room)])
	if got := first(-1, walk); got != nil {
		t.Errorf("Each of 3 bytes: %v", got)
	}
}

func TestAPanicOfWhoWalksIsTheirs(t *testing.T) { // P8.2
	b, _ := row(few()...)
	defer func() {
		if up := recover(); up != "mine" {
			t.Errorf("recovered: %v", up)
		}
	}()
	for range instr.Each(b) {
		panic("mine")
	}
}
