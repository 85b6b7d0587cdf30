package image_test

import (
	"bytes"
	"slices"
	"testing"

	"linesman/api"
	"linesman/image"
	"linesman/instr"
	"linesman/program"
)

// decodes sees to it that bytes are told as those of that program.
func decodes(t *testing.T, b []byte, p api.Program) {
	t.Helper()
	if got, e := image.Decode(b); e != api.OK || !program.Same(got, p) {
		t.Errorf("Decode(%.60x) = %.200v, %v", b, got, e)
	}
	if !image.Is(b) {
		t.Errorf("Is(%.60x) = false", b)
	}
}

// refuses sees to it that bytes are told as none.
func refuses(t *testing.T, b []byte, why api.Errno) {
	t.Helper()
	got, e := image.Decode(b)
	if e != why || got.Funcs != nil || !program.Same(got, api.Program{}) {
		t.Errorf("Decode(%.60x) = %.200v, %v, not %v", b, got, e, why)
	}
	if image.Is(b) {
		t.Errorf("Is(%.60x) = true", b)
	}
}

func TestTheChaptersExamples(t *testing.T) { // P10.1, P10.2
	b := []byte{0x6c, 0x69, 0x6e, 0x65, 1, 0, 0, 1, 1, 1, 0, 9, 0}
	got, e := image.Encode(tiny())
	if e != api.OK || len(got) != 21 || !bytes.Equal(got[:13], b) {
		t.Errorf("%x, %v", got, e)
	}
	refuses(t, b, api.ErrEnds)
	refuses(t, append(b, make([]byte, 8)...), api.ErrImage)
	refuses(t, []byte{0x6c, 0x69, 0x6e, 0x66}, api.ErrImage)
	decodes(t, summed(b), tiny())
}

func TestEncodeLenAndDecode(t *testing.T) { // P10.1, P10.2, P10.4
	for _, p := range append(many(), full()) {
		want := whole(p)
		if got, e := image.Encode(p); e != api.OK || !bytes.Equal(got, want) {
			t.Errorf("Encode(%.200v) = %.60x, %v", p, got, e)
		}
		if got, e := image.Len(p); e != api.OK || got != len(want) {
			t.Errorf("Len(%.200v) = %d, %v, not %d", p, got, e, len(want))
		}
		decodes(t, want, p)
	}
}

func TestEncodeOfSmall(t *testing.T) { // P10.1
	want := "line\x0b\x16\x21\x03" +
		"\x09\x08\x00\x01\x01\xef\xcd\xab\x89\x02\x02\x01\x03\x03\x04\x05\x06\x00\x00\x00\x05\x06\x07\x00\x00\x00\x06\x07\x08\x08\x08\x01\x02\x01\x00\x00\x00\x0a\x04\x00\x02\x00\x00\x00\x09\x05" +
		"\x10\x0a\x00\x07\x0e\x0f\x0b\x0d\x0c\x0c\x0d\x0b\x0e\x0a\x0f\x09\x10\x08\x11\x07\x06\x12\x05\x04\x09\x00\x00\x00" +
		"\x03\x03\x00\x13\x13\x09\x02"
	if got, e := image.Encode(small()); e != api.OK || string(got) != string(summed([]byte(want))) {
		t.Errorf("%x, %v", got, e)
	}
}

func TestEncodeAndLenRefuse(t *testing.T) { // P10.1
	for _, p := range append(wrong(), wild()...) {
		if got, e := image.Encode(p); e != api.ErrArg || got != nil {
			t.Errorf("Encode(%.200v) = %.60x, %v", p, got, e)
		}
		if got, e := image.Len(p); e != api.ErrArg || got != 0 {
			t.Errorf("Len(%.200v) = %d, %v", p, got, e)
		}
	}
}

func TestDecodeOfAProgramThatMayNotBe(t *testing.T) { // P10.2
	for _, p := range wrong() {
		b := whole(p)
		refuses(t, b, api.ErrImage)
		// That it may not be is told at the end, and not ahead of it.
		refuses(t, b[:len(b)-1], api.ErrEnds)
		refuses(t, b[:len(b)-8], api.ErrEnds)
		refuses(t, b[:len(b)-9], api.ErrEnds)
	}
}

func TestDecodeOfTheGreatestNumbersOfAll(t *testing.T) { // P10.2
	b := append([]byte("line"), bytes.Repeat([]byte{255}, 7)...)
	refuses(t, b, api.ErrEnds)
	refuses(t, append(b, bytes.Repeat([]byte{19}, 1000)...), api.ErrEnds)
	refuses(t, append(append(b, bytes.Repeat([]byte{19}, 1000)...), 20), api.ErrImage)
	p := api.Program{Mutexes: 255, Rwlocks: 255, Groups: 255, Funcs: make([]api.Func, 255)}
	for at := range p.Funcs {
		p.Funcs[at].Regs = 255
	}
	refuses(t, unsummed(p), api.ErrEnds)
	refuses(t, whole(p), api.ErrImage)
}

func TestDecodeOfBytesThatEnd(t *testing.T) { // P10.2
	refuses(t, nil, api.ErrEnds)
	refuses(t, []byte{}, api.ErrEnds)
	for _, p := range []api.Program{tiny(), small(), long(256)} {
		b := whole(p)
		for many := range b {
			// What is behind the end is no byte of it, though there is room.
			refuses(t, b[:many], api.ErrEnds)
		}
	}
}

func TestDecodeOfAnotherBeginning(t *testing.T) { // P10.2
	for at := range 4 {
		for one := range 256 {
			b := whole(tiny())
			if byte(one) == b[at] {
				continue
			}
			b[at] = byte(one)
			refuses(t, b, api.ErrImage)
			refuses(t, b[:at], api.ErrEnds)
			refuses(t, b[:at+1], api.ErrImage)
			// The sum is right: the beginning is told all the same.
			refuses(t, summed(b[:len(b)-8]), api.ErrImage)
		}
	}
	refuses(t, []byte("Line"), api.ErrImage)
	refuses(t, []byte("lin"), api.ErrEnds)
	refuses(t, []byte("enil"), api.ErrImage)
}

func TestDecodeOfAnInstructionThatIsNone(t *testing.T) { // P10.2
	head := []byte("line\x00\x00\x00\x01\x01\x01\x00")
	for _, none := range [][]byte{{0}, {20}, {255}, {6, 16, 0}, {6, 0, 16}, {3, 0, 0, 0, 0, 0, 0, 0}, {4, 0, 2, 0, 0}, {8, 0, 15, 2, 0, 0, 0, 0}} {
		b := append(slices.Clone(head), none...)
		refuses(t, b, api.ErrImage)
		refuses(t, summed(b), api.ErrImage)
		refuses(t, append(b, make([]byte, 50)...), api.ErrImage)
		if len(none) > 1 {
			// Layer 8 tells that they end ahead of what may not be.
			refuses(t, b[:len(b)-1], api.ErrEnds)
		}
		refuses(t, head, api.ErrEnds)
	}
}

func TestDecodeOfAnotherSum(t *testing.T) { // P10.2
	for _, p := range []api.Program{tiny(), small()} {
		b := whole(p)
		for at := len(b) - 8; at < len(b); at++ {
			for one := 1; one < 256; one++ {
				other := slices.Clone(b)
				other[at] ^= byte(one)
				refuses(t, other, api.ErrImage)
				// Of the sum that is told at the end.
				refuses(t, other[:len(b)-1], api.ErrEnds)
			}
		}
		turned := slices.Clone(b)
		slices.Reverse(turned[len(b)-8:])
		refuses(t, turned, api.ErrImage)
	}
}

func TestDecodeOfSomethingBehind(t *testing.T) { // P10.2
	for _, p := range []api.Program{tiny(), small(), long(512)} {
		b := whole(p)
		for _, behind := range [][]byte{{0}, {255}, b, make([]byte, 8), []byte("line"), {1, 2, 3}} {
			refuses(t, append(slices.Clone(b), behind...), api.ErrImage)
			// A sum of all of them makes them none the less wrong.
			refuses(t, summed(append(slices.Clone(b), behind...)), api.ErrImage)
		}
	}
}

func TestDecodeOfAByteOtherwise(t *testing.T) { // P10.2, P10.4
	// Of the longer one each byte is a few others only, as there are many.
	for step, p := range map[int]api.Program{1: tiny(), 17: small()} {
		b := whole(p)
		for at := range len(b) - 8 {
			for one := 0; one < 256; one += step {
				other := slices.Clone(b)
				other[at] = byte(one)
				for _, bs := range [][]byte{other, summed(other[:len(b)-8]), other[:len(b)-8], other[:at+1]} {
					agrees(t, bs)
				}
			}
		}
	}
}

// agrees sees to it that bytes are told as the chapter's words say.
func agrees(t *testing.T, b []byte) {
	t.Helper()
	much, want := stands(b)
	if want == api.OK && much != len(b) {
		want = api.ErrImage
	}
	if want != api.OK {
		refuses(t, b, want)
		return
	}
	// What is told of what was read are those bytes; else it was no program that may be.
	p, e := image.Decode(b)
	if e == api.OK {
		if again, why := image.Encode(p); why != api.OK || !bytes.Equal(again, b) || !image.Is(b) {
			t.Errorf("Decode(%x), Encode: %x, %v", b, again, why)
		}
		return
	}
	refuses(t, b, api.ErrImage)
	if p, is := loose(b); is && program.Check(p) == api.OK {
		t.Errorf("Decode(%x) refuses %v", b, p)
	}
}

// loose is the program whose bytes stand in the form of an image, whether it may be or not.
func loose(b []byte) (api.Program, bool) {
	p := api.Program{Mutexes: int(b[4]), Rwlocks: int(b[5]), Groups: int(b[6])}
	at := 8
	for range b[7] {
		f := api.Func{Regs: int(b[at])}
		code := int(b[at+1]) + 256*int(b[at+2])
		at += 3
		for range code {
			i, much, _ := instr.Read(b[at:])
			f.Code = append(f.Code, i)
			at += much
		}
		p.Funcs = append(p.Funcs, f)
	}
	return p, at+8 == len(b)
}

func TestABitTurnedOver(t *testing.T) { // P10.4
	for _, p := range many() {
		b := whole(p)
		for bit := range 8 * len(b) {
			if 20 <= bit/8 && bit/8 < len(b)-20 && bit%7 > 0 && len(b) > 200 {
				// Within a long one some are enough.
				continue
			}
			b[bit/8] ^= 1 << (bit % 8)
			if _, e := image.Decode(b); e == api.OK || image.Is(b) {
				t.Errorf("bit %d of %.60x", bit, b)
			}
			b[bit/8] ^= 1 << (bit % 8)
		}
	}
}

func TestAnImageIsNewMemory(t *testing.T) { // P10.1
	for _, p := range []api.Program{tiny(), small()} {
		b, _ := image.Encode(p)
		other, _ := image.Encode(p)
		for at := range b[:cap(b)] {
			b[:cap(b)][at] = 0xaa
		}
		if again, _ := image.Encode(p); !bytes.Equal(other, whole(p)) || !bytes.Equal(again, whole(p)) {
			t.Errorf("%x, then %x", other, again)
		}
	}
}

func TestWhatIsHandedInIsAsItWas(t *testing.T) { // P10.1, P10.2
	p := small()
	// There is room behind the lists, with something in it.
	p.Funcs = append(p.Funcs, api.Func{Regs: 77})[:3]
	p.Funcs[2].Code = append(p.Funcs[2].Code, api.Ins{Op: 88})[:3]
	image.Encode(p)
	image.Len(p)
	if !program.Same(p, small()) || p.Funcs[:4][3].Regs != 77 || p.Funcs[2].Code[:4][3].Op != 88 {
		t.Errorf("%v", p)
	}
	room := append(whole(small()), 7, 8, 9)
	b := room[:len(room)-3]
	decodes(t, b, small())
	for range image.Each(b) {
	}
	if !bytes.Equal(room, append(whole(small()), 7, 8, 9)) {
		t.Errorf("%x", room)
	}
}

func TestAProgramIsNewMemory(t *testing.T) { // P10.2
	b := whole(small())
	p, _ := image.Decode(b)
	other, _ := image.Decode(b)
	spoil(p)
	clear(b)
	if !program.Same(other, small()) {
		t.Errorf("%v", other)
	}
	// Nor do its own lists share any.
	for at := range other.Funcs {
		code := other.Funcs[at].Code
		_ = append(code, api.Ins{Op: 99})
		for pc := range code {
			code[pc] = api.Ins{Op: 99}
		}
		for behind := at + 1; behind < len(other.Funcs); behind++ {
			if !slices.Equal(other.Funcs[behind].Code, small().Funcs[behind].Code) {
				t.Errorf("function %d, when %d changes: %v", behind, at, other.Funcs[behind])
			}
		}
	}
}

// spoil writes over all of a program, spare room included.
func spoil(p api.Program) {
	for at := range p.Funcs[:cap(p.Funcs)] {
		code := p.Funcs[:cap(p.Funcs)][at].Code
		for pc := range code[:cap(code)] {
			code[:cap(code)][pc] = api.Ins{Op: 99}
		}
		p.Funcs[:cap(p.Funcs)][at] = api.Func{Regs: 99}
	}
}
