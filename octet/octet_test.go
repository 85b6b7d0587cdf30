package octet_test

import (
	"bytes"
	"iter"
	"math"
	"slices"
	"testing"

	"linesman/api"
	"linesman/octet"
)

const most = math.MaxUint64

// none are widths that numbers do not have.
func none() []int {
	return []int{0, 3, 5, 6, 7, 9, 16, 64, -1, -2, -4, -8, math.MaxInt, math.MinInt}
}

// pair is what a range told once.
type pair struct {
	at int
	n  uint64
}

func all(s iter.Seq2[int, uint64]) []pair {
	var l []pair
	for at, n := range s {
		l = append(l, pair{at, n})
	}
	return l
}

// roomy is b with bytes in the spare room behind it, and a look at all of them.
func roomy(b []byte) (short, whole []byte) {
	whole = append(bytes.Clone(b), 0x55, 0x55, 0x55, 0x55, 0x55, 0x55, 0x55, 0x55)
	return whole[:len(b)], whole
}

// numbers are some of all lengths: the edges of groups and widths, and what is between.
func numbers() []uint64 {
	l := []uint64{0, 1, 2, 300, 0x0123456789abcdef, most, most - 1}
	for bit := range 64 {
		top := uint64(1) << bit
		l = append(l, top-1, top, top+1, top|0x55)
	}
	for i := range uint64(400) {
		l = append(l, i, i*i*0x9e3779b97f4a7c15)
	}
	return l
}

func TestFixedTellsLowestFirst(t *testing.T) { // P1.1
	for _, c := range []struct {
		n     uint64
		width int
		want  []byte
	}{
		{258, 2, []byte{2, 1}},
		{0, 1, []byte{0}},
		{0, 2, []byte{0, 0}},
		{0, 4, []byte{0, 0, 0, 0}},
		{0, 8, []byte{0, 0, 0, 0, 0, 0, 0, 0}},
		{255, 1, []byte{255}},
		{255, 2, []byte{255, 0}},
		{1<<16 - 1, 2, []byte{255, 255}},
		{0x01020304, 4, []byte{4, 3, 2, 1}},
		{1<<32 - 1, 4, []byte{255, 255, 255, 255}},
		{0x0102030405060708, 8, []byte{8, 7, 6, 5, 4, 3, 2, 1}},
		{1 << 63, 8, []byte{0, 0, 0, 0, 0, 0, 0, 128}},
		{most, 8, []byte{255, 255, 255, 255, 255, 255, 255, 255}},
	} {
		b, e := octet.Fixed(c.n, c.width)
		if e != api.OK || !bytes.Equal(b, c.want) {
			t.Errorf("Fixed(%d, %d) = %x, %v", c.n, c.width, b, e)
		}
	}
}

func TestFixedRefuses(t *testing.T) { // P1.1
	for _, w := range none() {
		for _, n := range []uint64{0, 1, 256, most} {
			if b, e := octet.Fixed(n, w); e != api.ErrArg || b != nil {
				t.Errorf("Fixed(%d, %d) = %x, %v", n, w, b, e)
			}
		}
	}
	for _, w := range []int{1, 2, 4} {
		past := uint64(1) << (8 * w)
		for _, n := range []uint64{past, past + 1, 1 << 63, most} {
			if b, e := octet.Fixed(n, w); e != api.ErrRange || b != nil {
				t.Errorf("Fixed(%d, %d) = %x, %v", n, w, b, e)
			}
		}
		if b, e := octet.Fixed(past-1, w); e != api.OK || len(b) != w {
			t.Errorf("Fixed(%d, %d) = %x, %v", past-1, w, b, e)
		}
	}
}

func TestReadFixed(t *testing.T) { // P1.1
	b := []byte{2, 1, 7, 0, 0, 0, 0, 128, 9}
	for w, want := range map[int]uint64{1: 2, 2: 258, 4: 0x070102, 8: 1<<63 + 0x070102} {
		for have := range len(b) + 1 {
			n, e := octet.ReadFixed(b[:have:have], w)
			if have < w && (e != api.ErrEnds || n != 0) || have >= w && (e != api.OK || n != want) {
				t.Errorf("ReadFixed of %d bytes, %d: %d, %v", have, w, n, e)
			}
		}
		if n, e := octet.ReadFixed(nil, w); e != api.ErrEnds || n != 0 {
			t.Errorf("ReadFixed(nil, %d) = %d, %v", w, n, e)
		}
	}
	for _, w := range none() {
		for _, b := range [][]byte{nil, {}, {1}, b} {
			if n, e := octet.ReadFixed(b, w); e != api.ErrArg || n != 0 {
				t.Errorf("ReadFixed(%x, %d) = %d, %v", b, w, n, e)
			}
		}
	}
}

func TestReadFixedDoesNotReadSpareRoom(t *testing.T) { // P1.1
	short, whole := roomy([]byte{1, 2, 3})
	before := bytes.Clone(whole)
	if n, e := octet.ReadFixed(short, 4); e != api.ErrEnds || n != 0 {
		t.Errorf("%d, %v", n, e)
	}
	if !bytes.Equal(whole, before) {
		t.Errorf("changed: %x", whole)
	}
}

func TestEach(t *testing.T) { // P1.1
	b := []byte{1, 0, 2, 0, 3, 0, 4, 0, 5, 0, 6}
	for _, c := range []struct {
		width int
		want  []pair
	}{
		{1, []pair{{0, 1}, {1, 0}, {2, 2}, {3, 0}, {4, 3}, {5, 0}, {6, 4}, {7, 0}, {8, 5}, {9, 0}, {10, 6}}},
		{2, []pair{{0, 1}, {2, 2}, {4, 3}, {6, 4}, {8, 5}}},
		{4, []pair{{0, 0x20001}, {4, 0x40003}}},
		{8, []pair{{0, 0x4000300020001}}},
	} {
		if got := all(octet.Each(b, c.width)); !slices.Equal(got, c.want) {
			t.Errorf("Each of %d: %v", c.width, got)
		}
		if got := all(octet.Each(b[:c.width], c.width)); len(got) != 1 {
			t.Errorf("Each of one of %d: %v", c.width, got)
		}
		if got := all(octet.Each(b[:c.width-1], c.width)); got != nil {
			t.Errorf("Each of less than one of %d: %v", c.width, got)
		}
		if got := all(octet.Each(nil, c.width)); got != nil {
			t.Errorf("Each of nothing: %v", got)
		}
	}
	for _, w := range none() {
		for _, b := range [][]byte{nil, {}, b} {
			s := octet.Each(b, w)
			if s == nil {
				t.Fatalf("no iterator of width %d", w)
			}
			if got := all(s); got != nil {
				t.Errorf("Each of %d: %v", w, got)
			}
		}
	}
}

func TestEachIsLeftAndGoneOverAgain(t *testing.T) { // P1.1
	s := octet.Each([]byte{1, 0, 2, 0, 3, 0}, 2)
	for stop := range 4 {
		var got []pair
		for at, n := range s {
			if len(got) == stop {
				break
			}
			got = append(got, pair{at, n})
		}
		if want := []pair{{0, 1}, {2, 2}, {4, 3}}[:stop]; !slices.Equal(got, want) {
			t.Errorf("left behind %d: %v", stop, got)
		}
	}
	many := 0
	for range s {
		many += len(all(s))
	}
	if many != 9 {
		t.Errorf("one in another: %d", many)
	}
}

func TestEachGoesOverWhatWas(t *testing.T) { // P1.1
	short, whole := roomy([]byte{1, 0, 2, 0, 3})
	before := bytes.Clone(whole)
	s := octet.Each(short, 2)
	for at := range s {
		short[at+1] = 9
	}
	if got := all(s); !slices.Equal(got, []pair{{0, 1}, {2, 2}}) {
		t.Errorf("told of later bytes: %v", got)
	}
	copy(short, before)
	all(s)
	if !bytes.Equal(whole, before) {
		t.Errorf("changed: %x", whole)
	}
}

func TestNumber(t *testing.T) { // P1.2
	for _, c := range []struct {
		n    uint64
		want []byte
	}{
		{0, []byte{0}},
		{1, []byte{1}},
		{127, []byte{0x7f}},
		{128, []byte{0x80, 1}},
		{300, []byte{0xac, 2}},
		{1<<14 - 1, []byte{0xff, 0x7f}},
		{1 << 14, []byte{0x80, 0x80, 1}},
		{1<<63 - 1, []byte{0xff, 0xff, 0xff, 0xff, 0xff, 0xff, 0xff, 0xff, 0x7f}},
		{1 << 63, []byte{0x80, 0x80, 0x80, 0x80, 0x80, 0x80, 0x80, 0x80, 0x80, 1}},
		{most, []byte{0xff, 0xff, 0xff, 0xff, 0xff, 0xff, 0xff, 0xff, 0xff, 1}},
	} {
		if b := octet.Number(c.n); !bytes.Equal(b, c.want) {
			t.Errorf("Number(%d) = %x", c.n, b)
		}
		n, many, e := octet.ReadNumber(append(bytes.Clone(c.want), 7, 0x80))
		if n != c.n || many != len(c.want) || e != api.OK {
			t.Errorf("ReadNumber(%x ..) = %d, %d, %v", c.want, n, many, e)
		}
	}
}

// of is a byte, some times, and then others.
func of(times int, one byte, behind ...byte) []byte {
	return append(bytes.Repeat([]byte{one}, times), behind...)
}

func TestReadNumberRefuses(t *testing.T) { // P1.2
	for _, c := range []struct {
		b []byte
		e api.Errno
	}{
		{nil, api.ErrEnds},
		{[]byte{}, api.ErrEnds},
		{of(1, 0x80), api.ErrEnds},
		{of(9, 0x80), api.ErrEnds},
		{of(9, 0xff), api.ErrEnds},
		// more groups than it needs
		{of(1, 0x80, 0), api.ErrForm},
		{of(1, 0x80, 0, 0x80), api.ErrForm},
		{of(1, 0xff, 0), api.ErrForm},
		{of(8, 0x80, 0), api.ErrForm},
		{of(9, 0x80, 0), api.ErrForm},
		{of(9, 0xff, 0), api.ErrForm},
		// more than 64 bits
		{of(9, 0x80, 2), api.ErrForm},
		{of(9, 0xff, 3), api.ErrForm},
		{of(9, 0xff, 0x7f), api.ErrForm},
		// a tenth group that is not the last one is none, whatever is behind it
		{of(10, 0x80), api.ErrForm},
		{of(9, 0x80, 0x81), api.ErrForm},
		{of(9, 0xff, 0x81, 0), api.ErrForm},
		{of(10, 0x80, 1), api.ErrForm},
		{of(99, 0xff), api.ErrForm},
		{of(99, 0x80, 0), api.ErrForm},
	} {
		if n, many, e := octet.ReadNumber(c.b); n != 0 || many != 0 || e != c.e {
			t.Errorf("ReadNumber(%x) = %d, %d, %v", c.b, n, many, e)
		}
	}
}

func TestReadNumberDoesNotReadSpareRoom(t *testing.T) { // P1.2
	short, whole := roomy([]byte{0x80})
	before := bytes.Clone(whole)
	if n, many, e := octet.ReadNumber(short); n != 0 || many != 0 || e != api.ErrEnds {
		t.Errorf("%d, %d, %v", n, many, e)
	}
	if !bytes.Equal(whole, before) {
		t.Errorf("changed: %x", whole)
	}
}

func texts() []string {
	return []string{"", "a", "linesman", "\x00", "\x80", "\xff\xfe", "ü\xc3", "\xed\xa0\x80", "a\x00b\n",
		string(of(127, 'x')), string(of(128, 'y')), string(of(300, 0xff)), string(of(1<<14, 0))}
}

func TestText(t *testing.T) { // P1.3
	for _, s := range texts() {
		want := append(octet.Number(uint64(len(s))), s...)
		b := octet.Text(s)
		if !bytes.Equal(b, want) {
			t.Errorf("Text of %d bytes: %x", len(s), b)
		}
		got, many, e := octet.ReadText(append(b, 1, 'z'))
		if got != s || many != len(want) || e != api.OK {
			t.Errorf("ReadText of %d bytes: %q, %d, %v", len(s), got, many, e)
		}
	}
	if b := octet.Text(string(of(300, 'q'))); !bytes.Equal(b[:3], []byte{0xac, 2, 'q'}) || len(b) != 302 {
		t.Errorf("%x", b)
	}
}

func TestReadTextRefuses(t *testing.T) { // P1.3
	for _, c := range []struct {
		b []byte
		e api.Errno
	}{
		{nil, api.ErrEnds},
		{[]byte{}, api.ErrEnds},
		{[]byte{1}, api.ErrEnds},
		{[]byte{3, 'a', 'b'}, api.ErrEnds},
		{[]byte{0x80}, api.ErrEnds},
		{[]byte{0x80, 0}, api.ErrForm},
		{[]byte{0x80, 0, 'a'}, api.ErrForm},
		{of(9, 0x80, 2, 'a'), api.ErrForm},
		{append(octet.Number(1<<31), 'a'), api.ErrEnds},
		{append(octet.Number(math.MaxInt64), 'a'), api.ErrEnds},
		{append(octet.Number(1<<63), 'a'), api.ErrEnds},
		{append(octet.Number(most), 'a'), api.ErrEnds},
		{append(octet.Number(most-8), 'a'), api.ErrEnds},
	} {
		short, whole := roomy(c.b)
		before := bytes.Clone(whole)
		if s, many, e := octet.ReadText(short); s != "" || many != 0 || e != c.e {
			t.Errorf("ReadText(%x) = %q, %d, %v", c.b, s, many, e)
		}
		if !bytes.Equal(whole, before) {
			t.Errorf("changed: %x", whole)
		}
	}
}

func TestAnswersAreNewMemory(t *testing.T) { // P1.2, P1.3
	b := octet.Text("abc")
	s, _, _ := octet.ReadText(b)
	b[1] = 'z'
	if s != "abc" {
		t.Errorf("the text changed with its bytes: %q", s)
	}
	for _, tell := range []func() []byte{
		func() []byte { return octet.Number(0) },
		func() []byte { return octet.Number(most) },
		func() []byte { return octet.Text("abc") },
		func() []byte { b, _ := octet.Fixed(most, 8); return b },
	} {
		a, want := tell(), tell()
		for i := range a {
			a[i]++
		}
		if got := tell(); !bytes.Equal(got, want) {
			t.Errorf("an answer changed with another one: %x", got)
		}
	}
}

func TestNoNumberBeginsAnother(t *testing.T) { // P1.4
	for _, n := range numbers() {
		b := octet.Number(n)
		if got, many, e := octet.ReadNumber(b); got != n || many != len(b) || e != api.OK {
			t.Errorf("ReadNumber(Number(%d)) = %d, %d, %v", n, got, many, e)
		}
		for have := range b {
			if _, _, e := octet.ReadNumber(b[:have]); e != api.ErrEnds {
				t.Errorf("a number begins %x: %x, %v", b, b[:have], e)
			}
		}
	}
}

// trios are bytes by threes: all there are of some that are edges.
func trios() [][]byte {
	var l [][]byte
	edges := []byte{0, 1, 2, 0x7f, 0x80, 0x81, 0xfe, 0xff}
	for _, a := range edges {
		for _, b := range edges {
			for _, c := range edges {
				l = append(l, []byte{a, b, c})
			}
		}
	}
	return l
}

func TestWhatIsToldOfWhatWasRead(t *testing.T) { // P1.4
	for _, b := range trios() {
		for _, tail := range [][]byte{nil, of(4, 0x80), of(6, 0x80, 1), of(6, 0xff, 1), of(6, 0xff, 2), of(200, 1)} {
			b := append(bytes.Clone(b), tail...)
			if n, many, e := octet.ReadNumber(b); e == api.OK && !bytes.Equal(octet.Number(n), b[:many]) {
				t.Errorf("Number(%d) is not %x", n, b[:many])
			}
			if s, many, e := octet.ReadText(b); e == api.OK && !bytes.Equal(octet.Text(s), b[:many]) {
				t.Errorf("Text(%q) is not %x", s, b[:many])
			}
		}
	}
}

func TestFixedThereAndBack(t *testing.T) { // P1.4
	for _, w := range []int{1, 2, 4, 8} {
		for _, n := range numbers() {
			b, e := octet.Fixed(n, w)
			if w < 8 && n>>(8*w) != 0 {
				if e != api.ErrRange {
					t.Errorf("Fixed(%d, %d): %v", n, w, e)
				}
				continue
			}
			if got, f := octet.ReadFixed(b, w); e != api.OK || f != api.OK || got != n || len(b) != w {
				t.Errorf("ReadFixed(Fixed(%d, %d)) = %d, %v, %v", n, w, got, e, f)
			}
			if got := all(octet.Each(append(b, b...), w)); !slices.Equal(got, []pair{{0, n}, {w, n}}) {
				t.Errorf("Each of twice Fixed(%d, %d): %v", n, w, got)
			}
		}
	}
}
