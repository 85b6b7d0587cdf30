package memory_test

import (
	"iter"
	"maps"
	"math"
	"slices"
	"testing"

	"linesman/api"
	"linesman/memory"
)

const (
	most     = math.MaxUint32
	pageSize = 4096
	lastPage = most / pageSize
)

// edges are addresses at the ends of pages, at both ends of all, and some within.
var edges = []uint32{0, 1, 2, 100, 4094, 4095, 4096, 4097, 8191, 8192, 1<<16 - 1, 1 << 16, 1<<31 - 1, 1 << 31, most - 4097, most - 4096, most - 4095, most - 4094, most - 1, most}

// words are those that may be told apart from others most easily.
var words = []uint32{0, 1, 2, 255, 256, 1 << 16, 1<<31 - 1, 1 << 31, most - 1, most}

// said is what a memory has, as the chapter says it: no address without a word that is not 0.
type said map[uint32]uint32

// store stores words, in order.
func (s said) store(l ...api.Cell) {
	for _, c := range l {
		s[c.Addr] = c.Word
	}
	maps.DeleteFunc(s, func(_, word uint32) bool { return word == 0 })
}

// from tells the words from an address on, by rising addresses.
func (s said) from(addr uint32) []api.Cell {
	var l []api.Cell
	for _, there := range slices.Sorted(maps.Keys(s)) {
		if there >= addr {
			l = append(l, api.Cell{Addr: there, Word: s[there]})
		}
	}
	return l
}

// pages tells the pages' numbers, rising.
func (s said) pages() []uint32 {
	var l []uint32
	for addr := range s {
		l = append(l, addr/pageSize)
	}
	slices.Sort(l)
	return slices.Compact(l)
}

// digest tells the sum of addresses and words, bit by bit, as layer 2's chapter says it.
func (s said) digest() uint64 {
	sum := ^uint64(0)
	for _, c := range s.from(0) {
		both := uint64(c.Word)<<32 | uint64(c.Addr)
		for at := range 8 {
			sum ^= both >> (8 * at) & 255
			for range 8 {
				low := sum & 1
				sum >>= 1
				if low == 1 {
					sum ^= 0xc96c5795d7870f42
				}
			}
		}
	}
	return ^sum
}

// cell is a word at an address.
func cell(addr, word uint32) api.Cell {
	return api.Cell{Addr: addr, Word: word}
}

// of is a memory with these words.
func of(t *testing.T, l ...api.Cell) *memory.Memory {
	t.Helper()
	m := memory.New()
	store(t, m, l...)
	return m
}

// store stores words where nothing may be refused.
func store(t *testing.T, m *memory.Memory, l ...api.Cell) {
	t.Helper()
	if why := m.Store(l...); why != api.OK {
		t.Fatalf("Store(%v): %v", l, why)
	}
}

// first are the first few words of a walk.
func first(many int, s iter.Seq2[uint32, uint32]) []api.Cell {
	var l []api.Cell
	if many == 0 {
		return l
	}
	for addr, word := range s {
		l = append(l, cell(addr, word))
		if len(l) == many {
			break
		}
	}
	return l
}

// all are all words of a walk.
func all(s iter.Seq2[uint32, uint32]) []api.Cell {
	return first(-1, s)
}

// tells sees to it that all that a memory tells is what is said.
func tells(t *testing.T, m *memory.Memory, s said) {
	t.Helper()
	if m.Len() != len(s) {
		t.Errorf("Len = %d, not %d", m.Len(), len(s))
	}
	if got, want := m.Pages(), s.pages(); !slices.Equal(got, want) {
		t.Errorf("Pages = %d, not %d", got, want)
	}
	if got, want := all(m.From(0)), s.from(0); !slices.Equal(got, want) {
		t.Errorf("From(0): %v, not %v", got, want)
	}
	if got, want := m.Digest(), s.digest(); got != want {
		t.Errorf("Digest = %x, not %x", got, want)
	}
	for _, addr := range edges {
		if got := m.Load(addr); got != s[addr] {
			t.Errorf("Load(%d) = %d, not %d", addr, got, s[addr])
		}
	}
	for addr, want := range s {
		if got := m.Load(addr); got != want {
			t.Errorf("Load(%d) = %d, not %d", addr, got, want)
		}
	}
}

// nones are memories that are none.
func nones() map[string]*memory.Memory {
	return map[string]*memory.Memory{"nil": nil, "zero": {}}
}

// chance tells numbers that have no order that is seen, the same ones each time.
func chance() func(below uint32) uint32 {
	n := uint64(1)
	return func(below uint32) uint32 {
		n = n*6364136223846793005 + 1442695040888963407
		return uint32(n>>33) % below
	}
}

func TestNew(t *testing.T) { // P6.1
	m := memory.New()
	tells(t, m, said{})
	store(t, m, cell(7, 9))
	tells(t, memory.New(), said{})
	tells(t, m, said{7: 9})
}

func TestTheChaptersExample(t *testing.T) { // P6.1, P6.2
	m := of(t, cell(4096, 7), cell(1, 5), cell(4096, 0))
	if m.Load(1) != 5 || m.Load(4096) != 0 || m.Len() != 1 || !slices.Equal(m.Pages(), []uint32{0}) {
		t.Errorf("%d, %d, %d, %d", m.Load(1), m.Load(4096), m.Len(), m.Pages())
	}
	if m.Digest() != (said{1: 5}).digest() {
		t.Errorf("%x", m.Digest())
	}
}

func TestEachWordAtEachEdge(t *testing.T) { // P6.1, P6.2
	for _, addr := range edges {
		for _, word := range words {
			s := said{}
			s.store(cell(addr, word))
			tells(t, of(t, cell(addr, word)), s)
		}
	}
}

func TestStoreOfSeveral(t *testing.T) { // P6.1, P6.2
	for _, l := range [][]api.Cell{
		{cell(0, 1), cell(4095, 2), cell(4096, 3), cell(8191, 4), cell(most-4095, 5), cell(most, 6)},
		{cell(most, 6), cell(most-4095, 5), cell(8191, 4), cell(4096, 3), cell(4095, 2), cell(0, 1)},
		{cell(5, 1), cell(5, 2), cell(5, 3)},
		{cell(5, 1), cell(5, 0), cell(5, most)},
		{cell(5, 1), cell(5, 2), cell(5, 0)},
		{cell(5, 0), cell(5, 2)},
		{cell(5, 0), cell(5, 0)},
		{cell(5, 7), cell(6, 8), cell(5, 9), cell(6, 0)},
		{cell(5, 7), cell(6, 8), cell(5, 0), cell(6, 0), cell(6, 1)},
		{cell(0, 1), cell(most, 1), cell(0, 0), cell(most, 0)},
	} {
		s := said{}
		s.store(l...)
		tells(t, of(t, l...), s)
		m := memory.New()
		for _, c := range l {
			store(t, m, c)
		}
		tells(t, m, s)
	}
}

func TestStoreOfNoCell(t *testing.T) { // P6.1
	m := memory.New()
	store(t, m)
	tells(t, m, said{})
	store(t, m, cell(3, 4))
	store(t, m)
	store(t, m, nil...)
	store(t, m, []api.Cell{}...)
	tells(t, m, said{3: 4})
}

func TestAWordIsStoredTwice(t *testing.T) { // P6.1, P6.2, P6.4
	for _, addr := range edges {
		m, s := memory.New(), said{}
		for _, a := range words {
			for _, b := range words {
				for _, word := range []uint32{a, a, b, 0, 0, b} {
					store(t, m, cell(addr, word))
					s.store(cell(addr, word))
					if m.Load(addr) != word || m.Len() != len(s) || m.Digest() != s.digest() {
						t.Fatalf("%d at %d: Load = %d, Len = %d", word, addr, m.Load(addr), m.Len())
					}
				}
			}
		}
		tells(t, m, s)
	}
}

func TestAPageComesAndGoes(t *testing.T) { // P6.2
	for _, number := range []uint32{0, 1, 2, 1 << 19, lastPage - 1, lastPage} {
		begins := number * pageSize
		m := of(t, cell(begins+17, 0)) // a 0 where nothing ever was makes no page
		tells(t, m, said{})
		for at := range uint32(pageSize) {
			store(t, m, cell(begins+at, at+1))
		}
		if m.Len() != pageSize || !slices.Equal(m.Pages(), []uint32{number}) {
			t.Errorf("page %d: Len = %d, Pages = %d", number, m.Len(), m.Pages())
		}
		for left := uint32(pageSize); left > 1; left-- {
			store(t, m, cell(begins+left-1, 0))
		}
		tells(t, m, said{begins: 1})
		store(t, m, cell(begins, 0))
		tells(t, m, said{})
		store(t, m, cell(begins+pageSize-1, 3))
		tells(t, m, said{begins + pageSize - 1: 3})
	}
}

func TestPagesAreRising(t *testing.T) { // P6.2
	next, m, s := chance(), memory.New(), said{}
	for range 300 {
		c := cell(next(1<<31)<<1, 1)
		store(t, m, c)
		s.store(c)
	}
	tells(t, m, s)
	pages := m.Pages()
	if !slices.IsSorted(pages) || len(pages) != len(slices.Compact(slices.Clone(pages))) {
		t.Errorf("%d", pages)
	}
}

func TestFrom(t *testing.T) { // P6.2
	m, s := memory.New(), said{}
	for i, addr := range edges {
		if i%3 != 0 {
			store(t, m, cell(addr, uint32(i)))
			s.store(cell(addr, uint32(i)))
		}
	}
	for _, edge := range append(edges, 50, 5000, 12288, 1<<20, 1<<30, 3<<30) {
		for _, addr := range []uint32{edge - 1, edge, edge + 1} {
			if got, want := all(m.From(addr)), s.from(addr); !slices.Equal(got, want) {
				t.Errorf("From(%d): %v, not %v", addr, got, want)
			}
		}
	}
}

func TestFromBehindAll(t *testing.T) { // P6.2
	for _, addr := range edges[:len(edges)-1] {
		m := of(t, cell(addr, 5))
		for _, from := range []uint32{addr + 1, addr/pageSize*pageSize + pageSize - 1, most} {
			if got := all(m.From(from)); from > addr && len(got) != 0 {
				t.Errorf("a word at %d, From(%d): %v", addr, from, got)
			}
		}
	}
	if got := all(of(t, cell(most, 5)).From(most)); !slices.Equal(got, []api.Cell{cell(most, 5)}) {
		t.Errorf("%v", got)
	}
}

// some is a memory with words on several pages, two of them neighbours, and what it has.
func some(t *testing.T) (*memory.Memory, []api.Cell) {
	l := []api.Cell{cell(0, 9), cell(4095, 1), cell(4096, most), cell(1<<31, 2), cell(most-1, 3), cell(most, 4)}
	return of(t, l...), l
}

func TestFromIsLeftAndGoneOverAgain(t *testing.T) { // P6.2
	m, l := some(t)
	for begin, c := range l {
		s := m.From(c.Addr)
		for stop := range len(l) - begin + 1 {
			if got := first(stop, s); !slices.Equal(got, l[begin:begin+stop]) {
				t.Errorf("left behind %d: %v", stop, got)
			}
			if got := all(s); !slices.Equal(got, l[begin:]) {
				t.Errorf("behind one that was left behind %d: %v", stop, got)
			}
		}
		many := 0
		for range s {
			many += len(all(s))
		}
		if left := len(l) - begin; many != left*left {
			t.Errorf("one in another: %d", many)
		}
	}
}

func TestFromGoesNoFurtherOnceItIsLeft(t *testing.T) { // P6.2
	m, l := some(t)
	for stop := 1; stop <= len(l); stop++ {
		told := 0
		m.From(0)(func(uint32, uint32) bool {
			told++
			return told < stop
		})
		if told != stop {
			t.Errorf("left behind %d, and %d were told", stop, told)
		}
	}
}

func TestFromGoesOverWhatWas(t *testing.T) { // P6.2
	m, l := some(t)
	s := m.From(0)
	store(t, m, cell(0, 8), cell(1, 1), cell(1<<31, 0), cell(1<<20, 6), cell(most, 0))
	if got := all(s); !slices.Equal(got, l) {
		t.Errorf("stored ahead of the walk: %v", got)
	}
	m, l = some(t)
	s = m.From(0)
	var got []api.Cell
	for addr, word := range s {
		got = append(got, cell(addr, word))
		for _, c := range l { // all that was there goes, and something comes behind each
			store(t, m, cell(c.Addr, 0), cell(c.Addr+1, 77), cell(c.Addr+2*pageSize, 78))
		}
	}
	if !slices.Equal(got, l) {
		t.Errorf("stored while it is under way: %v", got)
	}
	if got = all(s); !slices.Equal(got, l) {
		t.Errorf("gone over again: %v", got)
	}
	m = memory.New()
	s = m.From(0)
	store(t, m, l...)
	if got = all(s); len(got) != 0 {
		t.Errorf("of one of noughts: %v", got)
	}
}

func TestWalksLeaveTheMemory(t *testing.T) { // P6.2
	m, l := some(t)
	s := said{}
	s.store(l...)
	for range 3 {
		tells(t, m, s)
		first(2, m.From(1))
	}
}

func TestDigest(t *testing.T) { // P6.2
	for _, c := range []struct {
		l    []api.Cell
		want uint64
	}{
		{nil, 0},
		{[]api.Cell{cell(0x34333231, 0x38373635), cell(0x34333231, 0)}, 0},
		// The bytes of 12345678.
		{[]api.Cell{cell(0x34333231, 0x38373635)}, sumOf("12345678")},
		{[]api.Cell{cell(1, 5)}, sumOf("\x01\x00\x00\x00\x05\x00\x00\x00")},
		{[]api.Cell{cell(most, 2), cell(0, 1<<31)}, sumOf("\x00\x00\x00\x00\x00\x00\x00\x80\xff\xff\xff\xff\x02\x00\x00\x00")},
		{[]api.Cell{cell(4096, 7), cell(4095, 6)}, sumOf("\xff\x0f\x00\x00\x06\x00\x00\x00\x00\x10\x00\x00\x07\x00\x00\x00")},
	} {
		if got := of(t, c.l...).Digest(); got != c.want {
			t.Errorf("%v: %x, not %x", c.l, got, c.want)
		}
	}
}

// sumOf tells the sum of bytes, bit by bit.
func sumOf(bytes string) uint64 {
	sum := ^uint64(0)
	for i := range len(bytes) {
		sum ^= uint64(bytes[i])
		for range 8 {
			sum = sum>>1 ^ sum&1*0xc96c5795d7870f42
		}
	}
	return ^sum
}

func TestDigestsOfUnlikeMemories(t *testing.T) { // P6.2
	seen := map[uint64]api.Cell{memory.New().Digest(): {}}
	for _, addr := range edges {
		for _, word := range words[1:] {
			d := of(t, cell(addr, word)).Digest()
			if c, is := seen[d]; is {
				t.Errorf("%v as %v: %x", cell(addr, word), c, d)
			}
			seen[d] = cell(addr, word)
		}
	}
}

func TestCopy(t *testing.T) { // P6.3
	m, l := some(t)
	was := said{}
	was.store(l...)
	other := m.Copy()
	if other == m || !memory.Same(m, other) {
		t.Error("a copy is not another one with the same")
	}
	tells(t, other, was)
	here, there := maps.Clone(was), maps.Clone(was)
	for i, c := range l {
		mine := []api.Cell{cell(c.Addr, 0), cell(c.Addr^1, uint32(100+i))}
		others := []api.Cell{cell(c.Addr, 50), cell(c.Addr^pageSize, uint32(200+i))}
		store(t, m, mine...)
		here.store(mine...)
		tells(t, other, there)
		store(t, other, others...)
		there.store(others...)
		tells(t, m, here)
		tells(t, other, there)
	}
	third := other.Copy()
	tells(t, third, there)
	store(t, third, cell(77, 77))
	tells(t, other, there)
}

func TestCopyOfNoughts(t *testing.T) { // P6.3
	m := memory.New()
	other := m.Copy()
	if other == nil || !memory.Same(m, other) {
		t.Fatal("none")
	}
	store(t, other, cell(1, 2))
	tells(t, m, said{})
	tells(t, other, said{1: 2})
}

func TestSame(t *testing.T) { // P6.3
	lists := [][]api.Cell{
		{}, {cell(0, 1)}, {cell(0, 2)}, {cell(1, 1)}, {cell(4095, 1)}, {cell(4096, 1)}, {cell(0, 1), cell(1, 1)},
		{cell(0, 1), cell(4096, 1)}, {cell(0, 1), cell(4096, 2)}, {cell(0, 1), cell(4097, 1)}, {cell(0, 1), cell(8192, 1)},
		{cell(most, 1)}, {cell(most, most)}, {cell(most-4095, 1)}, {cell(most-4095, 1), cell(most, 1)},
	}
	for i, a := range lists {
		for j, b := range lists {
			if got := memory.Same(of(t, a...), of(t, b...)); got != (i == j) {
				t.Errorf("%v, %v: %t", a, b, got)
			}
		}
	}
	m := of(t, lists[6]...)
	if !memory.Same(m, m) {
		t.Error("not as itself")
	}
}

func TestSameOfNone(t *testing.T) { // P6.3
	m, _ := some(t)
	for name, none := range nones() {
		for other, also := range nones() {
			if !memory.Same(none, also) {
				t.Errorf("%s, %s: not the same", name, other)
			}
		}
		for _, is := range []*memory.Memory{memory.New(), m, of(t, cell(5, 0))} {
			if memory.Same(none, is) || memory.Same(is, none) {
				t.Errorf("%s: the same as one that is there", name)
			}
		}
	}
}

func TestNoneRefuses(t *testing.T) { // P6.1, P6.2, P6.3
	for name, m := range nones() {
		for _, l := range [][]api.Cell{nil, {}, {cell(0, 0)}, {cell(0, 1)}, {cell(most, most), cell(4096, 1)}} {
			if why := m.Store(l...); why != api.ErrNil {
				t.Errorf("%s: Store(%v) = %v", name, l, why)
			}
		}
		for _, addr := range edges {
			if n := m.Load(addr); n != 0 {
				t.Errorf("%s: Load(%d) = %d", name, addr, n)
			}
			s := m.From(addr)
			if s == nil {
				t.Fatalf("%s: From(%d) is not there", name, addr)
			}
			if l := append(all(s), all(s)...); len(l) != 0 {
				t.Errorf("%s: From(%d): %v", name, addr, l)
			}
		}
		if m.Len() != 0 || len(m.Pages()) != 0 || m.Digest() != memory.New().Digest() || m.Copy() != nil {
			t.Errorf("%s: %d, %d, %x, %v", name, m.Len(), m.Pages(), m.Digest(), m.Copy())
		}
	}
}

func TestAWalkOfNoneTellsNothingLater(t *testing.T) { // P6.2
	var m memory.Memory
	s := m.From(0)
	m = *of(t, cell(1, 2))
	if l := all(s); len(l) != 0 {
		t.Errorf("%v", l)
	}
}

func TestWhatIsHandedInIsNotChanged(t *testing.T) { // P6.1
	room := []api.Cell{cell(9, 1), cell(3, 2), cell(9, 0), cell(7, 7), cell(1, 1)}
	was := slices.Clone(room)
	m := memory.New()
	store(t, m, room[:3]...)
	if !slices.Equal(room, was) {
		t.Errorf("%v", room)
	}
	clear(room) // and it is not kept
	tells(t, m, said{3: 2})
}

func TestWhatIsHandedOutIsNew(t *testing.T) { // P6.2
	m, l := some(t)
	s := said{}
	s.store(l...)
	pages := m.Pages()
	for i := range pages {
		pages[i] = 99
	}
	pages = append(pages[:1], 98, 97)
	tells(t, m, s)
	if again := m.Pages(); &again[0] == &pages[0] {
		t.Error("one list for two answers")
	}
}

func TestOrderMakesNoDifference(t *testing.T) { // P6.4
	l := []api.Cell{cell(0, 1), cell(4095, 2), cell(4096, 3), cell(most, 4), cell(1<<20, 0)}
	want := of(t, l...)
	orders := 0
	var arrange func(done, left []api.Cell)
	arrange = func(done, left []api.Cell) {
		if len(left) == 0 {
			orders++
			same(t, of(t, done...), want)
		}
		for i, c := range left {
			arrange(append(slices.Clone(done), c), slices.Delete(slices.Clone(left), i, i+1))
		}
	}
	arrange(nil, l)
	if orders != 120 {
		t.Errorf("%d orders", orders)
	}
}

// same sees to it that two memories tell the same in all that they tell.
func same(t *testing.T, a, b *memory.Memory) {
	t.Helper()
	if !memory.Same(a, b) || !memory.Same(b, a) || a.Len() != b.Len() || a.Digest() != b.Digest() || !slices.Equal(a.Pages(), b.Pages()) {
		t.Errorf("%d, %x, %d, not %d, %x, %d", a.Len(), a.Digest(), a.Pages(), b.Len(), b.Digest(), b.Pages())
	}
	for _, addr := range edges {
		if a.Load(addr) != b.Load(addr) || !slices.Equal(all(a.From(addr)), all(b.From(addr))) {
			t.Errorf("from %d: %v, not %v", addr, all(a.From(addr)), all(b.From(addr)))
		}
	}
}

func TestNoughtsMakeNoDifference(t *testing.T) { // P6.4
	want, l := some(t)
	between := memory.New()
	for _, c := range l {
		for _, addr := range edges {
			if between.Load(addr) == 0 {
				store(t, between, cell(addr, 0))
			}
		}
		store(t, between, cell(c.Addr, 0), cell(c.Addr, c.Word), cell(c.Addr^pageSize*8, 5), cell(c.Addr^pageSize*8, 0))
	}
	same(t, between, want)
	gone := want.Copy()
	for _, addr := range edges {
		if gone.Load(addr) == 0 {
			store(t, gone, cell(addr, 6))
			store(t, gone, cell(addr, 0))
		}
	}
	same(t, gone, want)
	for _, c := range l {
		store(t, gone, cell(c.Addr, 0))
	}
	same(t, gone, memory.New())
}

func TestLoadTellsWhatWasStoredLast(t *testing.T) { // P6.1, P6.2, P6.4
	next := chance()
	m, s := memory.New(), said{}
	for round := range 400 {
		var l []api.Cell
		for range next(6) {
			addr := edges[next(uint32(len(edges)))] + next(3)
			l = append(l, cell(addr, words[next(uint32(len(words)))]))
		}
		store(t, m, l...)
		s.store(l...)
		if round%20 == 0 {
			tells(t, m, s)
			fresh := of(t, s.from(0)...)
			same(t, m, fresh)
			m = m.Copy()
		}
		for _, c := range l {
			if m.Load(c.Addr) != s[c.Addr] {
				t.Fatalf("round %d: Load(%d) = %d, not %d", round, c.Addr, m.Load(c.Addr), s[c.Addr])
			}
		}
	}
	tells(t, m, s)
}
