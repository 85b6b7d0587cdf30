package digest_test

import (
	"bytes"
	"hash/crc64"
	"iter"
	"math"
	"slices"
	"testing"

	"linesman/api"
	"linesman/digest"
	"linesman/octet"
)

const most = math.MaxUint64

// said is the sum of bytes, bit by bit as the chapter says it.
func said(b []byte) uint64 {
	bits := uint64(most)
	for _, one := range b {
		bits ^= uint64(one)
		for range 8 {
			lowest := bits & 1
			bits >>= 1
			if lowest == 1 {
				bits ^= 0xc96c5795d7870f42
			}
		}
	}
	return ^bits
}

// odds are so many bytes with no order that is seen.
func odds(many int) []byte {
	b := make([]byte, many)
	n := uint64(many) + 1
	for i := range b {
		n = n*6364136223846793005 + 1442695040888963407
		b[i] = byte(n >> 56)
	}
	return b
}

// lists are bytes of many lengths.
func lists() [][]byte {
	l := [][]byte{nil, {}, []byte("123456789"), []byte("linesman"), {0xff, 0xff, 0xff, 0xff, 0xff, 0xff, 0xff, 0xff}}
	for one := range 256 {
		l = append(l, []byte{byte(one)})
	}
	for many := range 70 {
		l = append(l, make([]byte, many), odds(many))
	}
	return append(l, odds(1000), odds(4096), odds(65537))
}

// roomy is b with bytes in the spare room behind it, and a look at all of them.
func roomy(b []byte) (short, whole []byte) {
	whole = append(bytes.Clone(b), 0x55, 0x55, 0x55, 0x55)
	return whole[:len(b)], whole
}

// step is what a range told once.
type step struct {
	many int
	sum  uint64
}

func all(s iter.Seq2[int, uint64]) []step {
	var l []step
	for many, sum := range s {
		l = append(l, step{many, sum})
	}
	return l
}

// steps are the sums of the first bytes as the chapter says them.
func steps(b []byte) []step {
	var l []step
	for many := range len(b) + 1 {
		l = append(l, step{many, said(b[:many])})
	}
	return l
}

// holds asks that a digest has just these bytes.
func holds(t *testing.T, d *digest.Digest, b []byte) {
	t.Helper()
	if d.Sum() != said(b) || d.Len() != len(b) {
		t.Errorf("%x of %d, not %x of %d", d.Sum(), d.Len(), said(b), len(b))
	}
}

// absent are digests that are none: nil, and ones that no call made.
func absent() []*digest.Digest {
	var zero digest.Digest
	return []*digest.Digest{nil, {}, &zero, new(digest.Digest)}
}

func TestOf(t *testing.T) { // P2.1
	table := crc64.MakeTable(crc64.ECMA)
	for _, b := range lists() {
		if got := digest.Of(b); got != said(b) || got != crc64.Checksum(b, table) {
			t.Errorf("Of(%d bytes) = %x, not %x", len(b), got, said(b))
		}
	}
	if got := digest.Of([]byte("123456789")); got != 0x995dc9bbdf1939fa {
		t.Errorf("%x", got)
	}
}

func TestOfNothing(t *testing.T) { // P2.1
	for _, got := range []uint64{
		digest.Of(), digest.Of(nil), digest.Of([]byte{}), digest.Of(nil, nil, []byte{}), digest.Of([][]byte{}...),
	} {
		if got != 0 {
			t.Errorf("%x", got)
		}
	}
}

func TestOfLists(t *testing.T) { // P2.1
	a, b, c := []byte("1"), []byte("2345"), []byte("6789")
	const want = 0x995dc9bbdf1939fa
	for _, got := range []uint64{
		digest.Of(a, b, c), digest.Of(nil, a, nil, b, []byte{}, c, nil), digest.Of([][]byte{a, b, c}...),
	} {
		if got != want {
			t.Errorf("%x", got)
		}
	}
	for _, got := range []uint64{digest.Of(c, b, a), digest.Of(b, a, c), digest.Of(a, b), digest.Of(a, b, c, c)} {
		if got == want {
			t.Error("lists in another order, or others, have the same sum")
		}
	}
}

func TestOfLeavesWhatItIsGiven(t *testing.T) { // P2.1
	short, whole := roomy(odds(20))
	before := bytes.Clone(whole)
	first := digest.Of(short, short[3:5])
	if again := digest.Of(short, short[3:5]); again != first {
		t.Errorf("%x, then %x", first, again)
	}
	if want := said(append(bytes.Clone(short), short[3:5]...)); first != want {
		t.Errorf("%x, not %x", first, want)
	}
	if !bytes.Equal(whole, before) {
		t.Errorf("changed: %x", whole)
	}
}

func TestSteps(t *testing.T) { // P2.1
	for _, b := range lists() {
		if len(b) > 1000 {
			continue
		}
		if got := all(digest.Steps(b)); !slices.Equal(got, steps(b)) {
			t.Errorf("Steps of %d bytes: %v", len(b), got)
		}
	}
	for _, b := range [][]byte{nil, {}} {
		if got := all(digest.Steps(b)); !slices.Equal(got, []step{{0, 0}}) {
			t.Errorf("Steps of nothing: %v", got)
		}
	}
	got := all(digest.Steps([]byte("123456789")))
	if len(got) != 10 || got[0] != (step{0, 0}) || got[9] != (step{9, 0x995dc9bbdf1939fa}) {
		t.Errorf("%v", got)
	}
}

func TestStepsAreLeftAndGoneOverAgain(t *testing.T) { // P2.1
	b := odds(5)
	s := digest.Steps(b)
	for stop := range 7 {
		var got []step
		for many, sum := range s {
			if len(got) == stop {
				break
			}
			got = append(got, step{many, sum})
		}
		if want := steps(b)[:stop]; !slices.Equal(got, want) {
			t.Errorf("left behind %d: %v", stop, got)
		}
	}
	times := 0
	for many, sum := range s {
		if want := steps(b)[times]; want != (step{many, sum}) {
			t.Errorf("one in another: %d, %x", many, sum)
		}
		if got := all(s); !slices.Equal(got, steps(b)) {
			t.Errorf("one in another: %v", got)
		}
		times++
	}
	if times != 6 {
		t.Errorf("told %d times", times)
	}
}

func TestStepsAreOfWhatWas(t *testing.T) { // P2.1
	short, whole := roomy(odds(6))
	before := bytes.Clone(whole)
	want := steps(short)
	s := digest.Steps(short)
	for many := range s {
		if many < len(short) {
			short[many]++
		}
	}
	if got := all(s); !slices.Equal(got, want) {
		t.Errorf("told of later bytes: %v", got)
	}
	copy(short, before)
	all(s)
	if !bytes.Equal(whole, before) {
		t.Errorf("changed: %x", whole)
	}
}

func TestNewIsOfNothing(t *testing.T) { // P2.2
	d := digest.New()
	if d == nil {
		t.Fatal("no digest")
	}
	holds(t, d, nil)
	if other := digest.New(); other == d {
		t.Error("the same one twice")
	}
}

func TestWrite(t *testing.T) { // P2.2
	d := digest.New()
	var so []byte
	for _, b := range lists() {
		if e := d.Write(b); e != api.OK {
			t.Fatalf("Write: %v", e)
		}
		so = append(so, b...)
		if len(so) < 2000 {
			holds(t, d, so)
		}
	}
	holds(t, d, so)
}

func TestWriteLists(t *testing.T) { // P2.2
	a, b, c := []byte("1"), []byte("2345"), []byte("6789")
	for _, l := range [][][]byte{{a, b, c}, {nil, a, {}, b, nil, c, nil}, {c, b, a}, {b}, {nil}, {{}}, {}, nil} {
		d := digest.New()
		d.Write([]byte("x"))
		if e := d.Write(l...); e != api.OK {
			t.Errorf("Write: %v", e)
		}
		holds(t, d, append([]byte("x"), bytes.Join(l, nil)...))
	}
	d := digest.New()
	if e := d.Write(); e != api.OK {
		t.Errorf("Write of no list: %v", e)
	}
	holds(t, d, nil)
}

func TestWriteKeepsNothing(t *testing.T) { // P2.2
	short, whole := roomy(odds(9))
	before := bytes.Clone(whole)
	l := append(make([][]byte, 0, 4), short, short[2:4])
	d := digest.New()
	if e := d.Write(l...); e != api.OK {
		t.Errorf("Write: %v", e)
	}
	if !bytes.Equal(whole, before) || !bytes.Equal(l[0], short) || l[:3][2] != nil {
		t.Errorf("changed: %x", whole)
	}
	want := append(bytes.Clone(short), short[2:4]...)
	clear(short)
	l[0], l[1] = nil, nil
	holds(t, d, want)
}

func TestNumber(t *testing.T) { // P2.2
	for _, width := range []int{1, 2, 4, 8} {
		top := uint64(most) >> (64 - 8*width)
		for _, n := range []uint64{0, 1, 127, 255, top / 3, top - 1, top} {
			d := digest.New()
			d.Write([]byte("ahead"))
			if e := d.Number(n, width); e != api.OK {
				t.Errorf("Number(%d, %d): %v", n, width, e)
			}
			b, e := octet.Fixed(n, width)
			if e != api.OK {
				t.Fatalf("Fixed(%d, %d): %v", n, width, e)
			}
			holds(t, d, append([]byte("ahead"), b...))
			d.Write([]byte("behind"))
			holds(t, d, slices.Concat([]byte("ahead"), b, []byte("behind")))
		}
	}
	d := digest.New()
	d.Number(12849, 2)
	d.Write([]byte("3456789"))
	if d.Sum() != 0x995dc9bbdf1939fa || d.Len() != 9 {
		t.Errorf("%x of %d", d.Sum(), d.Len())
	}
}

func TestNumberRefuses(t *testing.T) { // P2.2
	d := digest.New()
	d.Write([]byte("123"))
	for _, width := range []int{0, 3, 5, 6, 7, 9, 16, 64, -1, -2, -4, -8, math.MaxInt, math.MinInt} {
		for _, n := range []uint64{0, 1, 256, most} {
			if e := d.Number(n, width); e != api.ErrArg {
				t.Errorf("Number(%d, %d): %v", n, width, e)
			}
			holds(t, d, []byte("123"))
		}
	}
	for _, width := range []int{1, 2, 4} {
		past := uint64(1) << (8 * width)
		for _, n := range []uint64{past, past + 1, 1 << 63, most} {
			if e := d.Number(n, width); e != api.ErrRange {
				t.Errorf("Number(%d, %d): %v", n, width, e)
			}
			holds(t, d, []byte("123"))
		}
	}
	d.Write([]byte("456789"))
	if d.Sum() != 0x995dc9bbdf1939fa || d.Len() != 9 {
		t.Errorf("goes on otherwise behind refusals: %x of %d", d.Sum(), d.Len())
	}
}

func TestNoDigest(t *testing.T) { // P2.2, P2.3
	for i, d := range absent() {
		for range 2 { // a refused call makes no digest of it
			for _, l := range [][][]byte{nil, {nil}, {{1}}, {{1}, {2, 3}}} {
				if e := d.Write(l...); e != api.ErrNil {
					t.Errorf("%d: Write: %v", i, e)
				}
			}
			for _, width := range []int{1, 2, 4, 8, 0, 3, -1, math.MaxInt, math.MinInt} {
				for _, n := range []uint64{0, 256, most} {
					if e := d.Number(n, width); e != api.ErrNil {
						t.Errorf("%d: Number(%d, %d): %v", i, n, width, e)
					}
				}
			}
			if d.Sum() != 0 || d.Len() != 0 || d.Copy() != nil {
				t.Errorf("%d: %x of %d", i, d.Sum(), d.Len())
			}
		}
	}
}

func TestSumAndLen(t *testing.T) { // P2.3
	d := digest.New()
	d.Write([]byte("12345"))
	for range 3 { // asking changes nothing
		holds(t, d, []byte("12345"))
	}
	d.Write([]byte("6789"))
	if d.Sum() != 0x995dc9bbdf1939fa || d.Len() != 9 {
		t.Errorf("%x of %d", d.Sum(), d.Len())
	}
}

func TestCopyGoesOnApart(t *testing.T) { // P2.3
	a := digest.New()
	a.Write([]byte("12"))
	b := a.Copy()
	if b == nil || b == a {
		t.Fatal("no other one")
	}
	holds(t, b, []byte("12"))
	a.Write([]byte("345"))
	holds(t, b, []byte("12"))
	b.Number(255, 8)
	holds(t, a, []byte("12345"))
	c := b.Copy()
	b.Write([]byte("z"))
	tail := []byte{'1', '2', 255, 0, 0, 0, 0, 0, 0, 0}
	holds(t, c, tail)
	holds(t, b, append(tail, 'z'))
	a.Write([]byte("6789"))
	if a.Sum() != 0x995dc9bbdf1939fa || a.Len() != 9 {
		t.Errorf("%x of %d", a.Sum(), a.Len())
	}
	n := digest.New().Copy()
	if n == nil {
		t.Fatal("no copy of one of nothing")
	}
	holds(t, n, nil)
	n.Write([]byte("9"))
	holds(t, n, []byte("9"))
}

func TestCutsMakeNoDifference(t *testing.T) { // P2.4
	b := odds(10)
	for cuts := range 1 << (len(b) - 1) { // a bit that is 1 is a cut behind that byte
		var l [][]byte
		d := digest.New()
		from := 0
		for at := range b {
			if at == len(b)-1 || cuts>>at&1 == 1 {
				l = append(l, b[from:at+1])
				d.Write(b[from : at+1])
				from = at + 1
			}
		}
		if digest.Of(l...) != said(b) {
			t.Fatalf("Of(%x) = %x", l, digest.Of(l...))
		}
		holds(t, d, b)
	}
	long := odds(5000)
	for _, at := range []int{0, 1, 255, 256, 257, 4096, 4999, 5000} {
		if got := digest.Of(long[:at], long[at:]); got != said(long) {
			t.Errorf("cut at %d: %x", at, got)
		}
	}
}

func TestOneBitMakesADifference(t *testing.T) { // P2.4
	for _, many := range []int{1, 2, 3, 8, 9, 64, 300} {
		for _, b := range [][]byte{make([]byte, many), bytes.Repeat([]byte{0xff}, many), odds(many)} {
			sum := digest.Of(b)
			for bit := range 8 * many {
				b[bit/8] ^= 1 << (bit % 8)
				if digest.Of(b) == sum {
					t.Errorf("%d bytes, bit %d: the same sum", many, bit)
				}
				b[bit/8] ^= 1 << (bit % 8)
			}
		}
	}
}

// turn turns bits over that follow one another from one on, those of each byte from its lowest or its highest one on.
func turn(b []byte, from int, bits uint8, highest bool) {
	for i := range 8 {
		at, place := (from+i)/8, (from+i)%8
		if highest {
			place = 7 - place
		}
		b[at] ^= bits >> i & 1 << place
	}
}

func TestEightBitsMakeADifference(t *testing.T) { // P2.4
	const many = 12
	for _, b := range [][]byte{make([]byte, many), odds(many)} {
		sum := digest.Of(b)
		for from := range 8*many - 7 {
			for bits := uint8(1); bits != 0; bits++ {
				for _, highest := range []bool{false, true} {
					turn(b, from, bits, highest)
					if digest.Of(b) == sum {
						t.Fatalf("%08b from bit %d on: the same sum", bits, from)
					}
					turn(b, from, bits, highest)
				}
			}
		}
	}
}
