package epoch_test

import (
	"iter"
	"math"
	"slices"
	"strconv"
	"strings"
	"testing"

	"linesman/api"
	"linesman/epoch"
)

const (
	turn     = uint64(1) << 48
	maxClock = turn - 1
	maxId    = 65535
	most     = math.MaxUint64
)

// ids are numbers that goroutines have: the edges, each bit, and what is between.
func ids() []int {
	l := []int{0, 1, 2, 9, 10, 99, 100, 4711, maxId - 1, maxId}
	for bit := range 16 {
		l = append(l, 1<<bit, maxId-1<<bit)
	}
	return l
}

// noIds are numbers that no goroutine has.
func noIds() []int {
	return []int{-1, -2, -maxId, math.MinInt, math.MinInt + 1, maxId + 1, maxId + 2, 1 << 17, math.MaxInt32, math.MaxInt32 + 1, 1 << 32, 1 << 48, math.MaxInt}
}

// clocks are some of all lengths.
func clocks() []uint64 {
	l := []uint64{0, 1, 2, 9, 10, 99, 100, 123456789012345, maxClock - 1, maxClock}
	for bit := range 48 {
		l = append(l, 1<<bit, maxClock-1<<bit)
	}
	return l
}

// noClocks are beyond each clock.
func noClocks() []uint64 {
	return []uint64{turn, turn + 1, 2*turn - 1, 1 << 49, 1 << 62, 1 << 63, most - 1, most}
}

// noEnds are what no clock's end is.
func noEnds() []uint64 {
	return append(noClocks(), 0)
}

// said is the epoch of both, as the chapter says it: the number in the highest 16 bits, the clock in the others.
func said(id int, clock uint64) api.Epoch {
	return api.Epoch(uint64(id)*turn + clock)
}

// pair is what a range told once.
type pair struct {
	at int
	e  api.Epoch
}

// first are the first few of what a range tells.
func first(many int, s iter.Seq2[int, api.Epoch]) []pair {
	var l []pair
	if many == 0 {
		return l
	}
	for at, e := range s {
		l = append(l, pair{at, e})
		if len(l) == many {
			break
		}
	}
	return l
}

func TestPack(t *testing.T) { // P3.1
	for _, c := range []struct {
		id    int
		clock uint64
		want  api.Epoch
	}{
		{1, 2, api.Epoch(turn + 2)},
		{0, 0, 0},
		{0, 1, 1},
		{0, maxClock, api.Epoch(maxClock)},
		{1, 0, api.Epoch(turn)},
		{maxId, 0, 0xffff000000000000},
		{maxId, 1, 0xffff000000000001},
		{maxId, maxClock, most},
		{0x1234, 0x56789abcdef0, 0x123456789abcdef0},
	} {
		if e, why := epoch.Pack(c.id, c.clock); e != c.want || why != api.OK {
			t.Errorf("Pack(%d, %d) = %x, %v", c.id, c.clock, e, why)
		}
	}
	for _, id := range ids() {
		for _, clock := range clocks() {
			if e, why := epoch.Pack(id, clock); e != said(id, clock) || why != api.OK {
				t.Errorf("Pack(%d, %d) = %x, %v", id, clock, e, why)
			}
		}
	}
}

func TestPackRefuses(t *testing.T) { // P3.1
	refused := func(id int, clock uint64) {
		if e, why := epoch.Pack(id, clock); e != 0 || why != api.ErrArg {
			t.Errorf("Pack(%d, %d) = %x, %v", id, clock, e, why)
		}
	}
	for _, id := range noIds() {
		for _, clock := range append(clocks(), noClocks()...) {
			refused(id, clock)
		}
	}
	for _, id := range ids() {
		for _, clock := range noClocks() {
			refused(id, clock)
		}
	}
}

func TestParts(t *testing.T) { // P3.1
	for _, c := range []struct {
		e     api.Epoch
		id    int
		clock uint64
	}{
		{api.Epoch(turn + 2), 1, 2},
		{0, 0, 0},
		{1, 0, 1},
		{api.Epoch(maxClock), 0, maxClock},
		{api.Epoch(turn), 1, 0},
		{0x8000000000000000, 1 << 15, 0},
		{0xffff000000000000, maxId, 0},
		{most, maxId, maxClock},
		{0x123456789abcdef0, 0x1234, 0x56789abcdef0},
	} {
		if id, clock := epoch.Parts(c.e); id != c.id || clock != c.clock {
			t.Errorf("Parts(%x) = %d, %d", c.e, id, clock)
		}
	}
}

func TestNone(t *testing.T) { // P3.1
	for _, id := range ids() {
		if !epoch.None(said(id, 0)) {
			t.Errorf("None of %d@0: false", id)
		}
		for _, clock := range clocks() {
			if got := epoch.None(said(id, clock)); got != (clock == 0) {
				t.Errorf("None of %d@%d: %v", id, clock, got)
			}
		}
	}
}

func TestNext(t *testing.T) { // P3.2
	for _, c := range []struct {
		id         int
		clock, end uint64
		want       api.Epoch
		why        api.Errno
	}{
		{1, 2, 3, said(1, 3), api.OK},
		{1, 3, 3, 0, api.ErrFull},
		{1, 2, 0, 0, api.ErrArg},
		{0, 0, 1, 1, api.OK},
		{0, 1, 1, 0, api.ErrFull},
		{0, 2, 1, 0, api.ErrFull},
		{0, 0, maxClock, 1, api.OK},
		{7, 4, 3, 0, api.ErrFull},
		{7, maxClock, 3, 0, api.ErrFull},
		{7, maxClock - 2, maxClock - 1, said(7, maxClock-1), api.OK},
		{7, maxClock - 1, maxClock - 1, 0, api.ErrFull},
		{7, maxClock, maxClock - 1, 0, api.ErrFull},
		{7, maxClock - 1, maxClock, said(7, maxClock), api.OK},
		{7, maxClock, maxClock, 0, api.ErrFull},
		{maxId, maxClock - 1, maxClock, most, api.OK},
		{maxId, maxClock, maxClock, 0, api.ErrFull},
	} {
		if e, why := epoch.Next(said(c.id, c.clock), c.end); e != c.want || why != c.why {
			t.Errorf("Next(%d@%d, %d) = %x, %v", c.id, c.clock, c.end, e, why)
		}
	}
	for _, end := range noEnds() { // the end is told ahead of a clock that is full
		for _, clock := range clocks() {
			if e, why := epoch.Next(said(1, clock), end); e != 0 || why != api.ErrArg {
				t.Errorf("Next(1@%d, %d) = %x, %v", clock, end, e, why)
			}
		}
	}
}

func TestEach(t *testing.T) { // P3.2
	for _, c := range []struct {
		id         int
		clock, end uint64
		want       []pair
	}{
		{1, 2, 4, []pair{{0, said(1, 2)}, {1, said(1, 3)}, {2, said(1, 4)}}},
		{1, 0, 1, []pair{{0, said(1, 0)}, {1, said(1, 1)}}},
		{0, 0, 2, []pair{{0, 0}, {1, 1}, {2, 2}}},
		{1, 3, 3, []pair{{0, said(1, 3)}}},
		{1, 1, 1, []pair{{0, said(1, 1)}}},
		{1, 4, 3, nil},
		{1, 2, 1, nil},
		{1, maxClock, 3, nil},
		{1, maxClock, maxClock - 1, nil},
		{1, maxClock, maxClock, []pair{{0, said(1, maxClock)}}},
		{1, maxClock - 1, maxClock, []pair{{0, said(1, maxClock-1)}, {1, said(1, maxClock)}}},
		{maxId, maxClock - 1, maxClock, []pair{{0, most - 1}, {1, most}}},
	} {
		// One more would be told, if there were one.
		if got := first(len(c.want)+1, epoch.Each(said(c.id, c.clock), c.end)); !slices.Equal(got, c.want) {
			t.Errorf("Each(%d@%d, %d): %v", c.id, c.clock, c.end, got)
		}
	}
}

func TestEachOfNoEnd(t *testing.T) { // P3.2
	for _, end := range noEnds() {
		for _, clock := range clocks() {
			s := epoch.Each(said(1, clock), end)
			if s == nil {
				t.Fatalf("no iterator of 1@%d, %d", clock, end)
			}
			if got := first(1, s); got != nil {
				t.Errorf("Each(1@%d, %d): %v", clock, end, got)
			}
		}
	}
}

func TestEachTellsWhatNextTells(t *testing.T) { // P3.2
	for _, id := range []int{0, 1, 300, maxId} {
		for _, begin := range []uint64{0, 1, 2, 1 << 32, maxClock - 300} {
			end := begin + 300
			e, why, many := said(id, begin), api.OK, 0
			for at, got := range epoch.Each(e, end) {
				if at != many || got != e || why != api.OK {
					t.Fatalf("%d@%d, %d: %d, %x; Next tells %x, %v", id, begin, end, at, got, e, why)
				}
				e, why = epoch.Next(e, end)
				many++
			}
			if many != 301 || why != api.ErrFull {
				t.Errorf("%d@%d, %d: %d of them, %v", id, begin, end, many, why)
			}
		}
	}
}

func TestEachIsLeftAndGoneOverAgain(t *testing.T) { // P3.2
	s := epoch.Each(said(3, 5), 8)
	whole := []pair{{0, said(3, 5)}, {1, said(3, 6)}, {2, said(3, 7)}, {3, said(3, 8)}}
	for stop := range 5 {
		if got := first(stop, s); !slices.Equal(got, whole[:stop]) {
			t.Errorf("left behind %d: %v", stop, got)
		}
		if got := first(9, s); !slices.Equal(got, whole) {
			t.Errorf("behind one that was left behind %d: %v", stop, got)
		}
	}
	many := 0
	for range s {
		many += len(first(9, s))
	}
	if many != 16 {
		t.Errorf("one in another: %d", many)
	}
	// A walk of all clocks may be left, too.
	if got := first(3, epoch.Each(0, maxClock)); !slices.Equal(got, []pair{{0, 0}, {1, 1}, {2, 2}}) {
		t.Errorf("all clocks: %v", got)
	}
}

func TestText(t *testing.T) { // P3.3
	for _, c := range []struct {
		e    api.Epoch
		want string
	}{
		{api.Epoch(turn + 2), "1@2"},
		{0, "0@0"},
		{1, "0@1"},
		{api.Epoch(turn), "1@0"},
		{api.Epoch(maxClock), "0@281474976710655"},
		{0xffff000000000000, "65535@0"},
		{most, "65535@281474976710655"},
		{said(10, 100), "10@100"},
	} {
		if s := epoch.Text(c.e); s != c.want {
			t.Errorf("Text(%x) = %q", c.e, s)
		}
		if e, why := epoch.Parse(c.want); e != c.e || why != api.OK {
			t.Errorf("Parse(%q) = %x, %v", c.want, e, why)
		}
	}
	for _, id := range ids() {
		for _, clock := range clocks() {
			want := strconv.Itoa(id) + "@" + strconv.FormatUint(clock, 10)
			if s := epoch.Text(said(id, clock)); s != want {
				t.Errorf("Text(%x) = %q", said(id, clock), s)
			}
		}
	}
}

// noTexts are texts of no epoch.
func noTexts() []string {
	return []string{
		// nothing, or not both
		"", "@", "1@", "@2", " ", "0", "12", "none",
		// without an @, with two, or with another mark
		"1", "1 2", "1:2", "1@2@3", "1@@2", "@1@2", "1@2@", "@@", "@1@", "1\uff202", "1\x002",
		// noughts ahead
		"01@2", "1@02", "00@0", "0@00", "00@1", "000001@2", "1@0000000000000000000000002", "065535@1",
		// a sign
		"+1@2", "1@+2", "-1@2", "1@-2", "-0@1", "1@-0", "+0@0", "0@+0", "-1@-1",
		// too great
		"65536@0", "65537@2", "99999@1", "131072@0", "1@281474976710656", "1@281474976710657", "0@999999999999999",
		"4294967296@1", "4294967297@1", "9223372036854775808@1", "18446744073709551615@1", "18446744073709551616@1", "18446744073709551617@2",
		"1@9223372036854775808", "1@18446744073709551615", "1@18446744073709551616", "1@18446744073709551618",
		"1@" + strings.Repeat("9", 5000), strings.Repeat("1", 5000) + "@1", strings.Repeat("0", 5000) + "1@2",
		// other digits, and what is none
		"0x1@2", "1@0x2", "1@a", "a@1", "1_0@2", "1@2_0", "1.0@2", "1@2.0", "1e1@2", "1@1e1", "\u0661@2", "1@\u0662", "\uff11@2", "1@0b1", "0o1@1",
		// something around
		" 1@2", "1@2 ", "1 @2", "1@ 2", "1@2\n", "\t1@2", "1@2\x00", "\x001@2", "\ufeff1@2", "1@2,",
		// no UTF-8
		"\xff", "\xff@\xfe", "1\xff@2", "1@\xff", "1@2\xff", "\x801@2", "1\xc0@2", "1@2\xf0\x9f", "\xc1\x80", strings.Repeat("\xff", 999),
	}
}

func TestParseRefuses(t *testing.T) { // P3.3
	for _, s := range noTexts() {
		if e, why := epoch.Parse(s); e != 0 || why != api.ErrText {
			t.Errorf("Parse(%.60q) = %x, %v", s, e, why)
		}
	}
}

func TestParseTakesNoOtherText(t *testing.T) { // P3.3, P3.4
	// Each text of up to five of these bytes: what is taken is told again to the letter.
	signs, taken := "019@+-", 0
	l := []string{""}
	for range 5 {
		var longer []string
		for _, s := range l {
			for _, one := range signs {
				longer = append(longer, s+string(one))
			}
		}
		for _, s := range longer {
			e, why := epoch.Parse(s)
			if why == api.OK && epoch.Text(e) != s || why != api.OK && (why != api.ErrText || e != 0) {
				t.Errorf("Parse(%q) = %x, %v", s, e, why)
			}
			if why == api.OK {
				taken++
			}
		}
		l = longer
	}
	// Numbers of one, two and three of these digits: 3, 6 and 18, with an @ between two of them.
	if want := 3*3 + 2*3*6 + 2*3*18 + 6*6; taken != want {
		t.Errorf("%d are taken, not %d", taken, want)
	}
}

func TestThereAndBack(t *testing.T) { // P3.4
	for _, id := range ids() {
		for _, clock := range clocks() {
			e, why := epoch.Pack(id, clock)
			if i, c := epoch.Parts(e); i != id || c != clock || why != api.OK {
				t.Errorf("Parts(Pack(%d, %d)) = %d, %d, %v", id, clock, i, c, why)
			}
		}
	}
	l := []api.Epoch{0, most}
	for bit := range 64 {
		l = append(l, 1<<bit, 1<<bit-1, most-1<<bit)
	}
	for i := range uint64(500) {
		l = append(l, api.Epoch(i*i*0x9e3779b97f4a7c15))
	}
	for _, e := range l {
		id, clock := epoch.Parts(e)
		if got, why := epoch.Pack(id, clock); got != e || why != api.OK || id < 0 || id > maxId || clock > maxClock {
			t.Errorf("Pack(Parts(%x)) = %x, %v", e, got, why)
		}
		if got, why := epoch.Parse(epoch.Text(e)); got != e || why != api.OK {
			t.Errorf("Parse(Text(%x)) = %x, %v", e, got, why)
		}
	}
}

func TestOrderIsThatOfClocks(t *testing.T) { // P3.4
	l := clocks()
	slices.Sort(l)
	for _, id := range ids() {
		for i, a := range l {
			for _, b := range l[i:] {
				x, _ := epoch.Pack(id, a)
				y, _ := epoch.Pack(id, b)
				if x > y || (x == y) != (a == b) {
					t.Errorf("%d@%d is %x, %d@%d is %x", id, a, x, id, b, y)
				}
			}
		}
	}
}

func TestNextStaysWithItsGoroutine(t *testing.T) { // P3.4
	for _, id := range ids() {
		for _, clock := range clocks() {
			for _, end := range append(clocks(), noEnds()...) {
				e, why := epoch.Next(said(id, clock), end)
				want := api.OK
				switch {
				case end < 1 || end > maxClock:
					want = api.ErrArg
				case clock >= end:
					want = api.ErrFull
				}
				if why != want {
					t.Fatalf("Next(%d@%d, %d): %v", id, clock, end, why)
				}
				if why != api.OK {
					continue
				}
				if i, c := epoch.Parts(e); i != id || c != clock+1 {
					t.Fatalf("Next(%d@%d, %d) = %d@%d", id, clock, end, i, c)
				}
			}
		}
	}
}
