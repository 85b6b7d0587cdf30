package site_test

import (
	"bytes"
	"math"
	"strconv"
	"strings"
	"testing"

	"linesman/api"
	"linesman/site"
)

const (
	funcs = 32
	codes = 512
)

// at is a place in a function's code.
func at(f, pc int) api.Site {
	return api.Site{Func: f, Pc: pc}
}

// sites are all that may be, in order.
func sites() []api.Site {
	var l []api.Site
	for f := range funcs {
		for pc := range codes {
			l = append(l, at(f, pc))
		}
	}
	return l
}

// edges are sites at the ends of functions and of numbers of a byte, and some within, in order.
func edges() []api.Site {
	var l []api.Site
	for _, f := range []int{0, 1, 2, 9, 10, 15, 16, 30, 31} {
		for _, pc := range []int{0, 1, 9, 10, 99, 100, 255, 256, 257, 510, 511} {
			l = append(l, at(f, pc))
		}
	}
	return l
}

// noSites are such as may not be, in order: one number of them is wrong, or both.
func noSites() []api.Site {
	var l []api.Site
	for _, f := range []int{math.MinInt, math.MinInt + 1, math.MinInt32, -257, -256, -255, -32, -2, -1, 0, 1, 31, 32, 33, 64, 255, 256, 257, 1 << 31, 1 << 32, math.MaxInt - 1, math.MaxInt} {
		for _, pc := range []int{math.MinInt, math.MinInt + 1, math.MinInt32, -1 << 16, -512, -256, -2, -1, 0, 255, 511, 512, 513, 1023, 1 << 15, 1 << 16, 1<<16 + 1, 1 << 32, math.MaxInt - 1, math.MaxInt} {
			if f < 0 || f >= funcs || pc < 0 || pc >= codes {
				l = append(l, at(f, pc))
			}
		}
	}
	return l
}

// text is a site's, as the chapter says it.
func text(s api.Site) string {
	return "f" + strconv.Itoa(s.Func) + ":" + strconv.Itoa(s.Pc)
}

// raw is a site's bytes, as the chapter says them.
func raw(s api.Site) []byte {
	return []byte{byte(s.Func), byte(s.Pc % 256), byte(s.Pc / 256)}
}

func TestCheck(t *testing.T) { // P7.1
	for _, s := range sites() {
		if why := site.Check(s); why != api.OK {
			t.Errorf("Check(%v): %v", s, why)
		}
	}
	for _, s := range noSites() {
		if why := site.Check(s); why != api.ErrArg {
			t.Errorf("Check(%v): %v", s, why)
		}
	}
}

func TestOrder(t *testing.T) { // P7.1
	for _, c := range []struct {
		a, b api.Site
		want int
	}{
		{at(0, 0), at(0, 0), 0},
		{at(0, 0), at(0, 1), -1},
		{at(0, 511), at(1, 0), -1},
		{at(1, 0), at(0, 511), 1},
		{at(5, 7), at(5, 6), 1},
		{at(5, 7), at(6, 7), -1},
		{at(9, 9), at(10, 9), -1},
		{at(9, 9), at(9, 10), -1},
		{at(31, 511), at(31, 511), 0},
		{at(31, 511), at(0, 0), 1},
		{at(31, 255), at(31, 256), -1},
		{at(-1, 5), at(0, 5), -1},
		{at(0, -1), at(0, 0), -1},
		{at(math.MinInt, 0), at(math.MaxInt, 0), -1},
		{at(math.MaxInt, 0), at(math.MinInt, 0), 1},
		{at(3, math.MinInt), at(3, math.MaxInt), -1},
		{at(3, math.MaxInt), at(3, math.MinInt), 1},
		{at(math.MinInt, math.MaxInt), at(math.MinInt, math.MaxInt), 0},
	} {
		if got := site.Order(c.a, c.b); got != c.want {
			t.Errorf("Order(%v, %v) = %d, not %d", c.a, c.b, got, c.want)
		}
	}
}

func TestTheOrderIsOne(t *testing.T) { // P7.1, P7.4
	for _, l := range [][]api.Site{edges(), noSites()} {
		for i, a := range l {
			for j, b := range l {
				want := 0
				if i < j {
					want = -1
				} else if i > j {
					want = 1
				}
				if got := site.Order(a, b); got != want {
					t.Errorf("Order(%v, %v) = %d, not %d", a, b, got, want)
				}
			}
		}
	}
	all := sites()
	for i, s := range all[1:] {
		if site.Order(all[i], s) != -1 || site.Order(s, all[i]) != 1 || site.Order(s, s) != 0 {
			t.Errorf("%v does not follow %v", s, all[i])
		}
	}
}

func TestTheChaptersExamples(t *testing.T) { // P7.1, P7.2, P7.3
	if got, why := site.Text(at(1, 12)); got != "f1:12" || why != api.OK {
		t.Errorf("Text: %q, %v", got, why)
	}
	if got, why := site.Parse("f1:12"); got != at(1, 12) || why != api.OK {
		t.Errorf("Parse: %v, %v", got, why)
	}
	if got, why := site.Parse("f01:2"); got != at(0, 0) || why != api.ErrSite {
		t.Errorf("Parse: %v, %v", got, why)
	}
	if got, why := site.Bytes(at(1, 258)); !bytes.Equal(got, []byte{1, 2, 1}) || why != api.OK {
		t.Errorf("Bytes: %x, %v", got, why)
	}
	x, why := site.Of(at(2, 0), at(1, 5))
	if x != (api.Pair{A: at(1, 5), B: at(2, 0)}) || why != api.OK {
		t.Errorf("Of: %v, %v", x, why)
	}
	p, why := site.New()
	if p == nil || why != api.OK {
		t.Fatalf("New: %v, %v", p, why)
	}
	for _, want := range []bool{true, false} {
		if got, why := p.Add(x); got != want || why != api.OK {
			t.Errorf("Add: %v, %v", got, why)
		}
	}
	if p.Len() != 1 {
		t.Errorf("Len = %d", p.Len())
	}
}

func TestTextAndParse(t *testing.T) { // P7.1, P7.4
	for _, s := range sites() {
		want := text(s)
		if got, why := site.Text(s); got != want || why != api.OK {
			t.Errorf("Text(%v) = %q, %v", s, got, why)
		}
		if got, why := site.Parse(want); got != s || why != api.OK {
			t.Errorf("Parse(%q) = %v, %v", want, got, why)
		}
	}
}

func TestTextRefuses(t *testing.T) { // P7.1
	for _, s := range noSites() {
		if got, why := site.Text(s); got != "" || why != api.ErrArg {
			t.Errorf("Text(%v) = %q, %v", s, got, why)
		}
		if got, why := site.Parse(text(s)); got != at(0, 0) || why != api.ErrSite {
			t.Errorf("Parse(%q) = %v, %v", text(s), got, why)
		}
	}
}

// noTexts are texts that no site has.
func noTexts() []string {
	l := []string{
		"", "f", ":", "f:", "f:0", "f0", "f0:", "0:0", "1:12", "12", "ff1:2", "F1:2", "g1:2", "fx1:2",
		"f1:2:", "f1::2", "f1:2:3", ":f1:2", "f1:f2", "f1:2f1:2", "f1;2", "f1.2", "f1@2", "f1,2", "f12",
		"f01:2", "f00:0", "f1:02", "f1:00", "f0:000", "f031:1", "f1:0511", "f0000000000000000000001:2", "f1:0000000000000000000002",
		"f-1:2", "f1:-2", "f-0:2", "f1:-0", "f+1:2", "f1:+2", "-f1:2", "+f1:2", "f--1:2",
		" f1:2", "f1:2 ", "f 1:2", "f1 :2", "f1: 2", "f1:2\n", "\tf1:2", "f1:2\x00", "\x00f1:2", "f1\x00:2", "f1:2\r\n",
		"f1:2x", "f1:2.0", "f1:2e0", "f1e0:2", "f0x1:2", "f1:0x2", "f1_0:2", "f1:1_0", "f1:a", "fa:1", "f١:2", "f1:２", "\xff", "f\xff:2", "f1:2\xff", "f1:\xff2",
		"f32:0", "f31:512", "f32:512", "f33:0", "f99:0", "f100:0", "f0:513", "f0:999", "f0:1000", "f255:255", "f256:0", "f288:0", "f0:65536", "f4294967296:0", "f0:4294967296", "f4294967297:1", "f1:4294967298",
		"f9223372036854775807:0", "f0:9223372036854775807", "f9223372036854775808:0", "f0:9223372036854775808", "f18446744073709551616:0", "f0:18446744073709551616", "f18446744073709551617:1", "f1:18446744073709551618",
		"f-9223372036854775808:0", "f0:-9223372036854775808", "f-9223372036854775809:0",
	}
	for _, long := range []string{strings.Repeat("0", 1<<20), strings.Repeat("9", 1<<20), strings.Repeat("f", 1<<20), strings.Repeat(":", 1<<20), strings.Repeat("f1:2", 1<<18), strings.Repeat(" ", 1<<20)} {
		l = append(l, long, "f"+long+":2", "f1:"+long, "f1:2"+long, long+"f1:2")
	}
	return l
}

func TestParseRefuses(t *testing.T) { // P7.1
	for _, s := range noTexts() {
		if got, why := site.Parse(s); got != at(0, 0) || why != api.ErrSite {
			t.Errorf("Parse(%.40q), of %d bytes, = %v, %v", s, len(s), got, why)
		}
	}
}

func TestParseOfATextWithOneByteOtherwise(t *testing.T) { // P7.1
	texts := map[string]api.Site{}
	for _, s := range sites() {
		texts[text(s)] = s
	}
	// tells sees to it that just the texts of sites are taken.
	tells := func(s string) {
		want, is := texts[s]
		got, why := site.Parse(s)
		if got != want || is != (why == api.OK) || !is && why != api.ErrSite {
			t.Errorf("Parse(%q) = %v, %v", s, got, why)
		}
	}
	for _, s := range edges() {
		whole := text(s)
		for i := range len(whole) {
			tells(whole[:i])
			tells(whole[:i] + whole[i+1:])
			for one := range 256 {
				tells(whole[:i] + string([]byte{byte(one)}) + whole[i+1:])
				tells(whole[:i] + string([]byte{byte(one)}) + whole[i:])
			}
		}
		for one := range 256 {
			tells(whole + string([]byte{byte(one)}))
		}
	}
}

func TestBytesAndRead(t *testing.T) { // P7.2, P7.4
	for _, s := range sites() {
		want := raw(s)
		got, why := site.Bytes(s)
		if !bytes.Equal(got, want) || why != api.OK {
			t.Errorf("Bytes(%v) = %x, %v", s, got, why)
		}
		for _, b := range [][]byte{want, append(raw(s), 0), append(raw(s), 255, 255, 255), append(raw(s), raw(s)...)} {
			if got, why := site.Read(b); got != s || why != api.OK {
				t.Errorf("Read(%x) = %v, %v", b, got, why)
			}
		}
	}
	if got, why := site.Read(append(raw(at(31, 511)), make([]byte, 1<<20)...)); got != at(31, 511) || why != api.OK {
		t.Errorf("Read of more: %v, %v", got, why)
	}
}

func TestBytesRefuses(t *testing.T) { // P7.2
	for _, s := range noSites() {
		if got, why := site.Bytes(s); got != nil || why != api.ErrArg {
			t.Errorf("Bytes(%v) = %x, %v", s, got, why)
		}
	}
}

func TestReadOfEachNumber(t *testing.T) { // P7.2
	tells := func(f, pc int) {
		want, e := at(f, pc), api.OK
		if f >= funcs || pc >= codes {
			want, e = at(0, 0), api.ErrSite
		}
		b := raw(at(f, pc))
		if got, why := site.Read(b); got != want || why != e {
			t.Errorf("Read(%x) = %v, %v", b, got, why)
		}
		if got, why := site.Read(append(b, 0, 0, 0)); got != want || why != e {
			t.Errorf("Read(%x, and more) = %v, %v", b, got, why)
		}
	}
	for f := range 256 {
		for _, pc := range []int{0, 1, 255, 256, 257, 511, 512, 513, 767, 768, 1024, 1 << 15, 65535} {
			tells(f, pc)
		}
	}
	for pc := range 1 << 16 {
		for _, f := range []int{0, 1, 31, 32, 255} {
			tells(f, pc)
		}
	}
}

func TestReadOfBytesThatEnd(t *testing.T) { // P7.2
	tells := func(b []byte) {
		if got, why := site.Read(b); got != at(0, 0) || why != api.ErrEnds {
			t.Errorf("Read(%x) = %v, %v", b, got, why)
		}
	}
	tells(nil)
	tells([]byte{})
	for a := range 256 {
		tells([]byte{byte(a)})
		for b := range 256 {
			tells([]byte{byte(a), byte(b)})
		}
	}
	// What is behind the end is no byte of it, though there is room.
	whole := raw(at(1, 2))
	tells(whole[:0])
	tells(whole[:1])
	tells(whole[:2])
}

func TestBytesAreNewAndReadChangesNone(t *testing.T) { // P7.2
	for _, s := range edges() {
		b, _ := site.Bytes(s)
		other, _ := site.Bytes(s)
		for i := range b[:cap(b)] {
			b[:cap(b)][i] = 0xaa
		}
		if again, _ := site.Bytes(s); !bytes.Equal(other, raw(s)) || !bytes.Equal(again, raw(s)) {
			t.Errorf("Bytes(%v) = %x, then %x", s, other, again)
		}
		room := append(raw(s), 7, 8, 9)
		if _, why := site.Read(room[:3]); why != api.OK || !bytes.Equal(room, append(raw(s), 7, 8, 9)) {
			t.Errorf("Read(%x): %v", room, why)
		}
	}
}

func TestOf(t *testing.T) { // P7.2, P7.4
	l := edges()
	for i, a := range l {
		for j, b := range l {
			want := api.Pair{A: l[min(i, j)], B: l[max(i, j)]}
			if got, why := site.Of(a, b); got != want || why != api.OK {
				t.Errorf("Of(%v, %v) = %v, %v", a, b, got, why)
			}
		}
	}
}

func TestOfRefuses(t *testing.T) { // P7.2
	refuses := func(a, b api.Site) {
		if got, why := site.Of(a, b); got != (api.Pair{}) || why != api.ErrArg {
			t.Errorf("Of(%v, %v) = %v, %v", a, b, got, why)
		}
	}
	none := noSites()
	for i, a := range none {
		for _, b := range []api.Site{at(0, 0), at(1, 5), at(31, 511)} {
			refuses(a, b)
			refuses(b, a)
		}
		refuses(a, a)
		refuses(a, none[len(none)-1-i])
	}
}

func TestWhatIsToldIsTheSameAgain(t *testing.T) { // P7.1, P7.2
	for _, a := range edges() {
		first, _ := site.Text(a)
		site.Text(at(-1, 0))
		site.Parse("f2:3")
		site.Read([]byte{4, 5, 0})
		if second, _ := site.Text(a); first != second {
			t.Errorf("Text(%v) = %q, then %q", a, first, second)
		}
	}
}
