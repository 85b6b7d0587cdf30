package vector_test

import (
	"iter"
	"math"
	"slices"
	"testing"

	"linesman/api"
	"linesman/epoch"
	"linesman/vector"
)

const (
	turn     = uint64(1) << 48
	maxClock = turn - 1
	maxId    = 65535
	most     = math.MaxUint64
)

// of is a vector of these clocks.
func of(clocks ...uint64) api.Clock {
	return clocks
}

// alone is a vector of one goroutine's clock alone.
func alone(id int, clock uint64) api.Clock {
	c := make(api.Clock, id+1)
	c[id] = clock
	return c
}

// long is a list of so many clocks, 0 but for the first and the last one.
func long(many int, first, last uint64) api.Clock {
	c := make(api.Clock, many)
	c[many-1] = last
	c[0] = first
	return c
}

// at is an epoch.
func at(id int, clock uint64) api.Epoch {
	return api.Epoch(uint64(id)*turn + clock)
}

// small are all lists of up to three clocks up to 2: trimmed ones and others, nil and empty.
func small() []api.Clock {
	l := []api.Clock{nil}
	for a := range uint64(3) {
		l = append(l, of(a))
		for b := range uint64(3) {
			l = append(l, of(a, b))
			for c := range uint64(3) {
				l = append(l, of(a, b, c))
			}
		}
	}
	return append(l, api.Clock{})
}

// vectors are some that may be: the small ones, the bounds, and what has no order that is seen.
func vectors() []api.Clock {
	l := append(small(),
		of(0, 0, 0, 0, 0, 0, 0), of(maxClock), of(maxClock-1), of(0, maxClock), of(maxClock, maxClock, 0), of(7, 0, 0, 9, 0, 0, 0, 0),
		make(api.Clock, maxId+1), long(maxId+1, 3, 5), long(maxId+1, 0, maxClock), long(maxId, 4, 0))
	n := uint64(1)
	for many := range 12 {
		c := make(api.Clock, many)
		for i := range c {
			n = n*6364136223846793005 + 1442695040888963407
			c[i] = n >> 16 >> (n % 48)
		}
		l = append(l, c)
	}
	return l
}

// wild are lists that no vectors are.
func wild() []api.Clock {
	return []api.Clock{
		of(turn), of(0, turn), of(1, 2, turn, 3), of(turn, 0, 0), of(turn+1, 5), of(1<<63, 1<<63), of(most), of(5, most, 0),
		make(api.Clock, maxId+2), long(maxId+2, 1, 0), long(maxId+2, 1, 1), long(maxId+2, turn, most), long(100000, 3, 7), long(maxId+1, 1, turn),
	}
}

// noIds are numbers that no goroutine has.
func noIds() []int {
	return []int{-1, -2, -maxId - 1, math.MinInt, math.MinInt + 1, maxId + 1, maxId + 2, 1 << 17, math.MaxInt32 + 1, 1 << 32, math.MaxInt}
}

// noEnds are what no clock's end is.
func noEnds() []uint64 {
	return []uint64{0, turn, turn + 1, 1 << 63, most - 1, most}
}

// clock is a goroutine's, of any list.
func clock(c api.Clock, id int) uint64 {
	if id < 0 || id >= len(c) {
		return 0
	}
	return c[id]
}

// trimmed is the list without noughts at the end.
func trimmed(c api.Clock) api.Clock {
	for len(c) > 0 && c[len(c)-1] == 0 {
		c = c[:len(c)-1]
	}
	return c
}

// upTo is what the chapter says of one list and another one.
func upTo(a, b api.Clock) bool {
	for id, one := range a {
		if one > clock(b, id) {
			return false
		}
	}
	return true
}

// stands is what the chapter says of how one stands to another one.
func stands(a, b api.Clock) api.Rel {
	switch {
	case slices.Equal(trimmed(a), trimmed(b)):
		return api.RelSame
	case upTo(a, b):
		return api.RelBefore
	case upTo(b, a):
		return api.RelAfter
	}
	return api.RelApart
}

// may tells if a list is a vector.
func may(c api.Clock) bool {
	return len(c) <= maxId+1 && !slices.ContainsFunc(c, func(one uint64) bool { return one > maxClock })
}

// brief is a list in what a failed test tells.
func brief(c api.Clock) api.Clock {
	return c[:min(len(c), 8)]
}

// roomy is a list with clocks in the spare room behind it, and a look at all of them.
func roomy(c api.Clock) (short, whole api.Clock) {
	whole = append(slices.Clone(c), 0, 0, 77, 88, 99, most)
	return whole[:len(c)], whole
}

// pair is what a range told once.
type pair struct {
	id    int
	clock uint64
}

// first are the first few of what a range tells.
func first(many int, s iter.Seq2[int, uint64]) []pair {
	var l []pair
	if many == 0 {
		return l
	}
	for id, one := range s {
		l = append(l, pair{id, one})
		if len(l) == many {
			break
		}
	}
	return l
}

// all is the whole of what a range tells.
func all(s iter.Seq2[int, uint64]) []pair {
	return first(-1, s)
}

// pairs are a list's clocks that are not 0.
func pairs(c api.Clock) []pair {
	var l []pair
	for id, one := range c {
		if one != 0 {
			l = append(l, pair{id, one})
		}
	}
	return l
}

func TestCheck(t *testing.T) { // P4.1
	for _, c := range vectors() {
		if why := vector.Check(c); why != api.OK {
			t.Errorf("Check(%d of %d) = %v", brief(c), len(c), why)
		}
	}
	for _, c := range wild() {
		if why := vector.Check(c); why != api.ErrArg {
			t.Errorf("Check(%d of %d) = %v", brief(c), len(c), why)
		}
	}
}

func TestCheckLooksAtEachClock(t *testing.T) { // P4.1
	for id := range 9 {
		c := make(api.Clock, 9)
		for _, one := range []uint64{0, 1, maxClock - 1, maxClock} {
			c[id] = one
			if why := vector.Check(c); why != api.OK {
				t.Errorf("%d@%d: %v", id, one, why)
			}
		}
		for _, one := range []uint64{turn, turn + 1, 2 * turn, 1 << 63, most} {
			c[id] = one
			if why := vector.Check(c); why != api.ErrArg {
				t.Errorf("%d@%d: %v", id, one, why)
			}
		}
	}
}

func TestTrim(t *testing.T) { // P4.1
	for _, c := range []struct{ of, want api.Clock }{
		{nil, nil},
		{of(), nil},
		{of(0), nil},
		{of(0, 0, 0), nil},
		{of(1, 0, 0), of(1)},
		{of(0, 0, 1), of(0, 0, 1)},
		{of(0, 2, 0, 0, 3, 0), of(0, 2, 0, 0, 3)},
		{of(most, 0), of(most)},
		{make(api.Clock, maxId+1), nil},
		{make(api.Clock, maxId+2), nil},
		{long(maxId+2, 9, 0), of(9)},
	} {
		if got := vector.Trim(c.of); !slices.Equal(got, c.want) {
			t.Errorf("Trim(%d of %d) = %d of %d", brief(c.of), len(c.of), brief(got), len(got))
		}
	}
	for _, c := range slices.Concat(vectors(), wild()) {
		if got := vector.Trim(c); !slices.Equal(got, trimmed(c)) {
			t.Errorf("Trim(%d of %d) = %d of %d", brief(c), len(c), brief(got), len(got))
		}
	}
}

func TestGet(t *testing.T) { // P4.1
	for _, c := range slices.Concat(vectors(), wild()) {
		ids := append(noIds(), 0, 1, 2, 3, 17, len(c)-2, len(c)-1, len(c), len(c)+1, maxId-1, maxId)
		for _, id := range ids {
			if got := vector.Get(c, id); got != clock(c, id) {
				t.Errorf("Get(%d of %d, %d) = %d", brief(c), len(c), id, got)
			}
		}
	}
	for _, c := range []struct {
		of   api.Clock
		id   int
		want uint64
	}{
		{of(4, 5, 6), 0, 4},
		{of(4, 5, 6), 2, 6},
		{of(4, 5, 6), 3, 0},
		{of(4, 5, 6), maxId, 0},
		{of(4, 5, 6), -1, 0},
		{nil, 0, 0},
		{of(), 0, 0},
		{of(0, 0), 1, 0},
		{of(0, most), 1, most},
		{long(maxId+1, 3, 5), maxId, 5},
		{long(maxId+1, 3, 5), maxId + 1, 0},
	} {
		if got := vector.Get(c.of, c.id); got != c.want {
			t.Errorf("Get(%d of %d, %d) = %d", brief(c.of), len(c.of), c.id, got)
		}
	}
}

func TestEach(t *testing.T) { // P4.1
	for _, c := range slices.Concat(vectors(), wild()) {
		s := vector.Each(c)
		if s == nil {
			t.Fatalf("no iterator of %d of %d", brief(c), len(c))
		}
		if got := all(s); !slices.Equal(got, pairs(c)) {
			t.Errorf("Each(%d of %d): %d", brief(c), len(c), got)
		}
	}
	if got := all(vector.Each(of(0, 5, 0, 0, 2, 9, 0))); !slices.Equal(got, []pair{{1, 5}, {4, 2}, {5, 9}}) {
		t.Errorf("%d", got)
	}
}

func TestEachIsLeftAndGoneOverAgain(t *testing.T) { // P4.1
	s := vector.Each(of(3, 0, 4, 0, 0, 5))
	whole := []pair{{0, 3}, {2, 4}, {5, 5}}
	for stop := range 4 {
		if got := first(stop, s); !slices.Equal(got, whole[:stop]) {
			t.Errorf("left behind %d: %d", stop, got)
		}
		if got := all(s); !slices.Equal(got, whole) {
			t.Errorf("behind one that was left behind %d: %d", stop, got)
		}
	}
	many := 0
	for range s {
		many += len(all(s))
	}
	if many != 9 {
		t.Errorf("one in another: %d", many)
	}
}

func TestEachIsOfWhatWas(t *testing.T) { // P4.1
	short, whole := roomy(of(1, 0, 2, 3))
	before := slices.Clone(whole)
	s := vector.Each(short)
	for id := range s {
		short[id], short[3] = 0, 9
	}
	clear(short)
	if got := all(s); !slices.Equal(got, []pair{{0, 1}, {2, 2}, {3, 3}}) {
		t.Errorf("told of later clocks: %d", got)
	}
	copy(short, before)
	all(s)
	if !slices.Equal(whole, before) {
		t.Errorf("changed: %d", whole)
	}
}

func TestEpoch(t *testing.T) { // P4.2
	for _, c := range vectors() {
		for _, id := range []int{0, 1, 2, 3, 17, len(c) - 1, len(c), len(c) + 1, maxId - 1, maxId} {
			if id < 0 || id > maxId {
				continue
			}
			if e, why := vector.Epoch(c, id); e != at(id, clock(c, id)) || why != api.OK {
				t.Errorf("Epoch(%d of %d, %d) = %x, %v", brief(c), len(c), id, e, why)
			}
		}
	}
	for _, c := range []struct {
		of   api.Clock
		id   int
		want api.Epoch
	}{
		{of(1, 5), 0, 1},
		{of(1, 5), 1, api.Epoch(turn + 5)},
		{of(1, 5), 2, api.Epoch(2 * turn)},
		{nil, 0, 0},
		{of(), maxId, 0xffff000000000000},
		{long(maxId+1, 3, maxClock), maxId, most},
	} {
		if e, why := vector.Epoch(c.of, c.id); e != c.want || why != api.OK {
			t.Errorf("Epoch(%d, %d) = %x, %v", brief(c.of), c.id, e, why)
		}
	}
}

func TestEpochRefuses(t *testing.T) { // P4.2
	refused := func(c api.Clock, id int) {
		if e, why := vector.Epoch(c, id); e != 0 || why != api.ErrArg {
			t.Errorf("Epoch(%d of %d, %d) = %x, %v", brief(c), len(c), id, e, why)
		}
	}
	for _, id := range noIds() {
		for _, c := range slices.Concat(vectors(), wild()) {
			refused(c, id)
		}
	}
	for _, c := range wild() {
		for _, id := range []int{0, 1, 2, maxId} {
			refused(c, id)
		}
	}
}

func TestHas(t *testing.T) { // P4.2
	for _, c := range []struct {
		of   api.Clock
		e    api.Epoch
		want bool
	}{
		{of(1, 5), at(1, 5), true},
		{of(1, 5), at(1, 4), true},
		{of(1, 5), at(1, 6), false},
		{of(1, 5), at(0, 1), true},
		{of(1, 5), at(0, 2), false},
		{of(1, 5), at(2, 1), false},
		// none, of goroutines in the list and beyond it
		{of(1, 5), at(1, 0), true},
		{of(1, 5), at(2, 0), true},
		{of(1, 5), at(maxId, 0), true},
		{nil, at(0, 0), true},
		{nil, at(maxId, 0), true},
		{of(), at(7, 0), true},
		{of(0, 0), at(1, 0), true},
		{nil, at(0, 1), false},
		{nil, at(maxId, maxClock), false},
		{of(0, 0), at(1, 1), false},
		{of(0, maxClock), at(1, maxClock), true},
		{of(0, maxClock-1), at(1, maxClock), false},
		{long(maxId+1, 3, 5), at(maxId, 5), true},
		{long(maxId+1, 3, 5), at(maxId, 6), false},
		// lists that no vectors are
		{of(0, turn), at(1, maxClock), true},
		{of(most), at(0, maxClock), true},
		{of(most), at(1, 1), false},
		{long(maxId+2, 3, 5), at(0, 3), true},
		{long(maxId+2, 3, 5), at(0, 4), false},
		{long(maxId+2, 3, 5), at(maxId, 1), false},
	} {
		if got := vector.Has(c.of, c.e); got != c.want {
			t.Errorf("Has(%d of %d, %x) = %v", brief(c.of), len(c.of), c.e, got)
		}
	}
}

func TestTick(t *testing.T) { // P4.2
	for _, c := range []struct {
		of   api.Clock
		id   int
		end  uint64
		want api.Clock
		why  api.Errno
	}{
		{of(1), 2, 9, of(1, 0, 1), api.OK},
		{of(1), 0, 1, nil, api.ErrFull},
		{of(1), 0, 2, of(2), api.OK},
		{nil, 0, 1, of(1), api.OK},
		{of(), 3, 1, of(0, 0, 0, 1), api.OK},
		{nil, maxId, 1, long(maxId+1, 0, 1), api.OK},
		{of(3), maxId, maxClock, long(maxId+1, 3, 1), api.OK},
		{make(api.Clock, maxId+1), 1, 1, of(0, 1), api.OK},
		{long(maxId+1, 3, 5), maxId, 6, long(maxId+1, 3, 6), api.OK},
		{long(maxId+1, 3, 5), maxId, 5, nil, api.ErrFull},
		// the last one of the list, and the first one beyond it
		{of(4, 5, 6), 2, 7, of(4, 5, 7), api.OK},
		{of(4, 5, 6), 3, 7, of(4, 5, 6, 1), api.OK},
		{of(4, 5, 6), 1, 7, of(4, 6, 6), api.OK},
		// noughts behind the last clock
		{of(4, 5, 0, 0), 0, 7, of(5, 5), api.OK},
		{of(4, 0, 0, 0), 2, 7, of(4, 0, 1), api.OK},
		{of(0, 0, 0), 0, 7, of(1), api.OK},
		{of(0, 0, 0), 2, 1, of(0, 0, 1), api.OK},
		// at the end, and beyond it
		{of(4, 5, 6), 1, 6, of(4, 6, 6), api.OK},
		{of(4, 5, 6), 1, 5, nil, api.ErrFull},
		{of(4, 5, 6), 1, 4, nil, api.ErrFull},
		{of(4, 5, 6), 1, 1, nil, api.ErrFull},
		{of(maxClock, maxClock-1), 1, maxClock, of(maxClock, maxClock), api.OK},
		{of(maxClock, maxClock-1), 1, maxClock - 1, nil, api.ErrFull},
		{of(maxClock, maxClock-1), 0, maxClock, nil, api.ErrFull},
		{of(maxClock), 0, 1, nil, api.ErrFull},
		// the others' clocks have no end here
		{of(9, 9, 9), 3, 1, of(9, 9, 9, 1), api.OK},
		// the end is told ahead of a clock that is full
		{of(1), 0, 0, nil, api.ErrArg},
		{of(maxClock), 0, turn, nil, api.ErrArg},
	} {
		if got, why := vector.Tick(c.of, c.id, c.end); !slices.Equal(got, c.want) || why != c.why {
			t.Errorf("Tick(%d of %d, %d, %d) = %d of %d, %v", brief(c.of), len(c.of), c.id, c.end, brief(got), len(got), why)
		}
	}
}

func TestTickRefuses(t *testing.T) { // P4.2
	refused := func(c api.Clock, id int, end uint64) {
		if got, why := vector.Tick(c, id, end); got != nil || why != api.ErrArg {
			t.Errorf("Tick(%d of %d, %d, %d) = %d of %d, %v", brief(c), len(c), id, end, brief(got), len(got), why)
		}
	}
	ends := append(noEnds(), 1, 2, 9, maxClock)
	for _, c := range wild() {
		for _, id := range append(noIds(), 0, 1, maxId) {
			for _, end := range ends {
				refused(c, id, end)
			}
		}
	}
	for _, c := range vectors() {
		for _, id := range noIds() {
			for _, end := range ends {
				refused(c, id, end)
			}
		}
		for _, id := range []int{0, 1, 5, maxId} {
			for _, end := range noEnds() {
				refused(c, id, end)
			}
		}
	}
}

func TestJoin(t *testing.T) { // P4.3
	for _, c := range []struct {
		of   []api.Clock
		want api.Clock
	}{
		{[]api.Clock{of(1, 5), of(3), of(0, 0, 2, 0)}, of(3, 5, 2)},
		{nil, nil},
		{[]api.Clock{}, nil},
		{[]api.Clock{nil}, nil},
		{[]api.Clock{nil, {}, nil}, nil},
		{[]api.Clock{of(0, 0), of(0)}, nil},
		{[]api.Clock{of(1, 0, 0)}, of(1)},
		{[]api.Clock{of(0, 7)}, of(0, 7)},
		{[]api.Clock{nil, of(2, 1), {}}, of(2, 1)},
		{[]api.Clock{of(1, 9), of(2, 8)}, of(2, 9)},
		{[]api.Clock{of(2, 8), of(1, 9)}, of(2, 9)},
		{[]api.Clock{of(1), of(1)}, of(1)},
		{[]api.Clock{of(1), of(0, 0, 0, 4), of(0, 3, 0, 0, 0, 0)}, of(1, 3, 0, 4)},
		{[]api.Clock{of(maxClock), of(0, maxClock)}, of(maxClock, maxClock)},
		{[]api.Clock{make(api.Clock, maxId+1), of(5)}, of(5)},
		{[]api.Clock{long(maxId+1, 3, 5), of(5, 6), long(maxId+1, 4, 1)}, append(of(5, 6), long(maxId-1, 0, 5)...)},
		// lists that no vectors are
		{[]api.Clock{of(turn), of(maxClock, turn+1), of(most, turn)}, of(most, turn+1)},
		{[]api.Clock{make(api.Clock, maxId+2), of(1)}, of(1)},
		{[]api.Clock{of(7), long(maxId+2, 1, 3)}, long(maxId+2, 7, 3)},
	} {
		if got := vector.Join(c.of...); !slices.Equal(got, c.want) {
			t.Errorf("Join of %d = %d of %d", len(c.of), brief(got), len(got))
		}
	}
}

func TestJoinOfMany(t *testing.T) { // P4.3
	var l []api.Clock
	var want api.Clock
	for id := range 300 {
		l = append(l, alone(id, uint64(id)+1), alone(id/2, uint64(id)*3))
		want = append(want, max(uint64(id)+1, uint64(2*id+1)*3))
	}
	for id := 150; id < 300; id++ {
		want[id] = uint64(id) + 1
	}
	if got := vector.Join(l...); !slices.Equal(got, want) {
		t.Errorf("%d", got)
	}
	slices.Reverse(l)
	if got := vector.Join(l...); !slices.Equal(got, want) {
		t.Errorf("the other way round: %d", got)
	}
}

func TestJoinHasOfEachTheGreatest(t *testing.T) { // P4.3
	l := append(slices.Concat(vectors(), wild()), of(5, 5))
	for _, a := range l {
		for _, b := range small() {
			var want api.Clock
			for id := range max(len(a), len(b)) {
				want = append(want, max(clock(a, id), clock(b, id)))
			}
			want = trimmed(want)
			if got := vector.Join(a, b); !slices.Equal(got, want) {
				t.Errorf("Join(%d of %d, %d) = %d of %d", brief(a), len(a), b, brief(got), len(got))
			}
			if got := vector.Join(b, a); !slices.Equal(got, want) {
				t.Errorf("Join(%d, %d of %d) = %d of %d", b, brief(a), len(a), brief(got), len(got))
			}
		}
	}
}

func TestStands(t *testing.T) { // P4.3
	for _, c := range []struct {
		a, b api.Clock
		want api.Rel
	}{
		{of(1, 5), of(1, 6), api.RelBefore},
		{of(1, 6), of(1, 5), api.RelAfter},
		{of(1), of(0, 1), api.RelApart},
		{of(1, 5), of(1, 5), api.RelSame},
		{nil, nil, api.RelSame},
		{nil, of(), api.RelSame},
		{nil, of(0, 0, 0), api.RelSame},
		{of(0, 0), of(0), api.RelSame},
		{of(1, 0, 0), of(1), api.RelSame},
		{of(1), of(1, 0, 0), api.RelSame},
		{nil, of(0, 1), api.RelBefore},
		{of(0, 1), nil, api.RelAfter},
		{of(0, 1), of(0, 0, 0, 0), api.RelAfter},
		{of(1), of(1, 0, 1), api.RelBefore},
		{of(1, 0, 1), of(1), api.RelAfter},
		{of(2), of(1, 0, 1), api.RelApart},
		{of(1, 0, 1), of(2), api.RelApart},
		{of(3, 3), of(4, 2), api.RelApart},
		{of(maxClock), of(maxClock-1, 1), api.RelApart},
		{long(maxId+1, 3, 5), long(maxId+1, 3, 6), api.RelBefore},
		{long(maxId+1, 3, 5), of(3), api.RelAfter},
		{long(maxId+1, 3, 5), of(4), api.RelApart},
		{make(api.Clock, maxId+1), nil, api.RelSame},
		// lists that no vectors are
		{of(turn), of(turn), api.RelSame},
		{of(maxClock), of(turn), api.RelBefore},
		{of(most), of(most - 1), api.RelAfter},
		{of(most), of(0, most), api.RelApart},
		{make(api.Clock, maxId+2), nil, api.RelSame},
		{long(maxId+2, 1, 1), of(1), api.RelAfter},
		{of(1), long(maxId+2, 1, 1), api.RelBefore},
		{of(2), long(maxId+2, 1, 1), api.RelApart},
	} {
		if got := vector.Stands(c.a, c.b); got != c.want {
			t.Errorf("Stands(%d of %d, %d of %d) = %d", brief(c.a), len(c.a), brief(c.b), len(c.b), got)
		}
	}
	l := slices.Concat(vectors(), wild())
	for _, a := range l {
		for _, b := range l {
			if got := vector.Stands(a, b); got != stands(a, b) {
				t.Errorf("Stands(%d of %d, %d of %d) = %d", brief(a), len(a), brief(b), len(b), got)
			}
		}
	}
}

// isUpTo tells by Stands if one is up to another one.
func isUpTo(a, b api.Clock) bool {
	r := vector.Stands(a, b)
	return r == api.RelSame || r == api.RelBefore
}

func TestJoinIsTheLeast(t *testing.T) { // P4.4
	l := small()
	for _, a := range l {
		for _, b := range l {
			j := vector.Join(a, b)
			if !isUpTo(a, j) || !isUpTo(b, j) {
				t.Errorf("Join(%d, %d) = %d: one of them is not up to it", a, b, j)
			}
			for _, c := range l {
				if isUpTo(a, c) && isUpTo(b, c) && !isUpTo(j, c) {
					t.Errorf("Join(%d, %d) = %d, and %d is less", a, b, j, c)
				}
				if got := vector.Join(j, c); !slices.Equal(got, vector.Join(a, b, c)) || !slices.Equal(got, vector.Join(c, b, a)) {
					t.Errorf("%d, %d, %d are joined to %d", a, b, c, got)
				}
			}
		}
	}
	for _, c := range l { // of none, it is up to each one
		if !isUpTo(vector.Join(), c) {
			t.Errorf("the join of none is not up to %d", c)
		}
	}
}

func TestUpToIsAnOrder(t *testing.T) { // P4.4
	l := small()
	for _, a := range l {
		if vector.Stands(a, a) != api.RelSame || vector.Stands(a, vector.Trim(a)) != api.RelSame {
			t.Errorf("%d is not the same as it is itself", a)
		}
		for _, b := range l {
			there, back := vector.Stands(a, b), vector.Stands(b, a)
			turned := [5]api.Rel{0, api.RelSame, api.RelAfter, api.RelBefore, api.RelApart}
			if there < api.RelSame || there > api.RelApart || back != turned[there] {
				t.Errorf("%d and %d: %d, and %d the other way round", a, b, there, back)
			}
			if (there == api.RelSame) != slices.Equal(vector.Trim(a), vector.Trim(b)) {
				t.Errorf("%d and %d: %d", a, b, there)
			}
			for _, c := range l {
				if isUpTo(a, b) && isUpTo(b, c) && !isUpTo(a, c) {
					t.Errorf("%d is up to %d, and this to %d", a, b, c)
				}
			}
		}
	}
}

func TestHasJustWhatIsUpToIt(t *testing.T) { // P4.4
	for _, c := range slices.Concat(vectors(), wild()) {
		for _, id := range []int{0, 1, 2, 3, 12, maxId} {
			clocks := []uint64{0, 1, 2, 3, maxClock - 1, maxClock}
			if one := clock(c, id); one > 0 && one < maxClock {
				clocks = append(clocks, one-1, one, one+1)
			}
			for _, one := range clocks {
				e, _ := epoch.Pack(id, one)
				if got := vector.Has(c, e); got != isUpTo(alone(id, one), c) || got != (one <= clock(c, id)) {
					t.Errorf("Has(%d of %d, %d@%d) = %v", brief(c), len(c), id, one, got)
				}
			}
		}
	}
}

func TestWhoTicksComesAfter(t *testing.T) { // P4.4
	for _, c := range vectors() {
		for _, id := range []int{0, 1, 2, 5, maxId} {
			got, why := vector.Tick(c, id, maxClock)
			if clock(c, id) == maxClock {
				if got != nil || why != api.ErrFull {
					t.Errorf("Tick(%d of %d, %d): %v", brief(c), len(c), id, why)
				}
				continue
			}
			if why != api.OK || !may(got) || vector.Stands(got, c) != api.RelAfter || vector.Stands(c, got) != api.RelBefore {
				t.Errorf("Tick(%d of %d, %d) = %d of %d, %v", brief(c), len(c), id, brief(got), len(got), why)
			}
			want := vector.Join(c, alone(id, clock(c, id)+1))
			if !slices.Equal(got, want) {
				t.Errorf("Tick(%d of %d, %d) = %d of %d", brief(c), len(c), id, brief(got), len(got))
			}
			e, _ := vector.Epoch(got, id)
			if vector.Has(c, e) || !vector.Has(got, e) {
				t.Errorf("Tick(%d of %d, %d): who has the new epoch?", brief(c), len(c), id)
			}
		}
	}
}

func TestNothingHandedInIsChanged(t *testing.T) { // P4.1, P4.2, P4.3
	for _, c := range slices.Concat(vectors(), wild()) {
		short, whole := roomy(c)
		before := slices.Clone(whole)
		other, otherWhole := roomy(of(9, 0, 9, 0))
		otherBefore := slices.Clone(otherWhole)
		l := append(make([]api.Clock, 0, 4), short, other)
		vector.Check(short)
		vector.Trim(short)
		vector.Get(short, len(short))
		all(vector.Each(short))
		vector.Epoch(short, len(short))
		vector.Has(short, at(len(short)%maxId, 1))
		vector.Join(l...)
		vector.Join(other, short)
		vector.Stands(short, other)
		vector.Stands(other, short)
		for _, id := range []int{0, 1, len(short) - 1, len(short), len(short) + 1} {
			vector.Tick(short, id, maxClock)
			vector.Tick(short, id, 1)
		}
		if !slices.Equal(whole, before) || !slices.Equal(otherWhole, otherBefore) {
			t.Errorf("changed: %d of %d", brief(whole), len(whole))
		}
		if len(l) != 2 || l[:3][2] != nil || !slices.Equal(l[0], c) || !slices.Equal(l[1], of(9, 0, 9, 0)) {
			t.Errorf("the list of lists is changed: %d", len(l))
		}
	}
}

func TestWhatIsHandedOutIsTheCallersOwn(t *testing.T) { // P4.1, P4.2, P4.3
	for _, c := range []api.Clock{of(1, 2, 3), of(1, 2, 0), of(0, 2), long(maxId+1, 3, 5)} {
		for name, call := range map[string]func(api.Clock) api.Clock{
			"Trim":          vector.Trim,
			"Join":          func(c api.Clock) api.Clock { return vector.Join(c) },
			"Join of two":   func(c api.Clock) api.Clock { return vector.Join(c, c) },
			"Join with nil": func(c api.Clock) api.Clock { return vector.Join(nil, c, nil) },
			"Tick": func(c api.Clock) api.Clock {
				got, _ := vector.Tick(c, 0, maxClock)
				return got
			},
		} {
			short, whole := roomy(c)
			before := slices.Clone(whole)
			got, again := call(short), call(short)
			want := slices.Clone(again)
			got = got[:cap(got)]
			for i := range got {
				got[i] = 4711
			}
			if !slices.Equal(whole, before) || !slices.Equal(again, want) || !slices.Equal(call(short), want) {
				t.Errorf("%s of %d of %d shares what it answers", name, brief(c), len(c))
			}
			clear(whole)
			if !slices.Equal(again, want) {
				t.Errorf("%s of %d of %d keeps what it is handed", name, brief(c), len(c))
			}
		}
	}
}
