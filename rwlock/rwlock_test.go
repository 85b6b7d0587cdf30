package rwlock_test

import (
	"math/rand/v2"
	"slices"
	"testing"

	"linesman/api"
	"linesman/rwlock"
)

func TestNew(t *testing.T) { // P14.1, P14.3
	for many := range maxObjects + 1 {
		holds(t, made(t, many), fresh(many))
	}
	l := of(t, writing(7), reading(5))
	holds(t, made(t, 2), fresh(2))
	holds(t, l, model{writing(7), reading(5)})
}

func TestNewRefuses(t *testing.T) { // P14.1
	for _, many := range append([]int{-2, -1, maxObjects + 1, maxObjects + 2, 128, maxId}, huge...) {
		if l, e := rwlock.New(many); l != nil || e != api.ErrArg {
			t.Errorf("New(%d): %v, %v", many, l, e)
		}
	}
}

func TestTheChaptersExamples(t *testing.T) { // P14.1, P14.2, P14.3
	l := made(t, 1)
	read(t, l, 0, 1, 2, 1)
	if e := l.Write(0, 3); e != api.ErrReaders {
		t.Errorf("Write of one that is read: %v", e)
	}
	unread(t, l, 0, 1, 1)
	holds(t, l, model{reading(2, 1)})
	unread(t, l, 0, 9, 2)
	unread(t, l, 0, 1, 1)
	write(t, l, 0, 3)
	if e := l.Read(0, 1); e != api.ErrWriter {
		t.Errorf("Read of one that is written: %v", e)
	}
	unwrite(t, l, 0, 3)
	if who, e := l.Unwrite(0); who != 0 || e != api.ErrNobody {
		t.Errorf("Unwrite of one that nobody has: %d, %v", who, e)
	}
	holds(t, l, fresh(1))
}

func TestToEachComesEach(t *testing.T) { // P14.1, P14.2, P14.3
	for _, many := range []int{1, 2, 3, 63, maxObjects} {
		for i := range many {
			for _, by := range goroutines {
				l, want := made(t, many), fresh(many)
				read(t, l, i, by)
				want[i] = reading(by)
				holds(t, l, want)
				unread(t, l, i, by, by)
				holds(t, l, fresh(many))
				write(t, l, i, by)
				want[i] = writing(by)
				holds(t, l, want)
				unwrite(t, l, i, by)
				holds(t, l, fresh(many))
			}
		}
	}
}

func TestOneComesToAll(t *testing.T) { // P14.1, P14.2, P14.3
	for _, by := range goroutines {
		l, want := made(t, maxObjects), fresh(maxObjects)
		for at := range maxObjects {
			i := at * 29 % maxObjects
			if i%2 == 0 {
				write(t, l, i, by)
				want[i] = writing(by)
			} else {
				read(t, l, i, by, by)
				want[i] = reading(by, by)
			}
			holds(t, l, want)
		}
		for at := range maxObjects {
			i := at * 45 % maxObjects
			if i%2 == 0 {
				unwrite(t, l, i, by)
				want[i] = state{}
			} else {
				unread(t, l, i, by, by)
				want[i] = reading(by)
			}
			holds(t, l, want)
		}
	}
}

func TestReadersComeInOrder(t *testing.T) { // P14.1, P14.3
	l, want := made(t, 3), fresh(3)
	for _, by := range []int{5, 0, 5, maxId, 3, 3, 0, 5} {
		read(t, l, 1, by)
		want[1].readers = append(want[1].readers, by)
		holds(t, l, want)
	}
}

func TestWhoLeaves(t *testing.T) { // P14.2
	for _, c := range []struct {
		readers []int
		by      int
		who     int
		left    []int
	}{
		{[]int{4}, 4, 4, nil},
		{[]int{4}, 5, 4, nil},
		{[]int{0}, maxId, 0, nil},
		{[]int{maxId}, 0, maxId, nil},
		{[]int{1, 2}, 1, 1, []int{2}},
		{[]int{1, 2}, 2, 2, []int{1}},
		{[]int{1, 2}, 3, 1, []int{2}},
		{[]int{2, 1}, 3, 2, []int{1}},
		{[]int{2, 1}, 0, 2, []int{1}},
		{[]int{7, 7}, 7, 7, []int{7}},
		{[]int{1, 2, 1}, 1, 1, []int{2, 1}},
		{[]int{2, 1, 1}, 1, 1, []int{2, 1}},
		{[]int{2, 1, 3, 1, 4}, 1, 1, []int{2, 3, 1, 4}},
		{[]int{2, 1, 3, 1, 4}, 4, 4, []int{2, 1, 3, 1}},
		{[]int{2, 1, 3, 1, 4}, 3, 3, []int{2, 1, 1, 4}},
		{[]int{2, 1, 3, 1, 4}, 5, 2, []int{1, 3, 1, 4}},
		{[]int{5, 6, 0}, 0, 0, []int{5, 6}},
		{[]int{5, 6, 7}, 0, 5, []int{6, 7}},
	} {
		l := of(t, reading(c.by), reading(c.readers...), writing(c.by))
		unread(t, l, 1, c.by, c.who)
		holds(t, l, model{reading(c.by), reading(c.left...), writing(c.by)})
	}
}

func TestWhoComesBehindOneThatLeft(t *testing.T) { // P14.2, P14.5
	l := of(t, reading(1, 2, 3))
	unread(t, l, 0, 2, 2)
	read(t, l, 0, 2, 1)
	holds(t, l, model{reading(1, 3, 2, 1)})
	unread(t, l, 0, 1, 1)
	holds(t, l, model{reading(3, 2, 1)})
	for _, who := range []int{3, 2, 1} {
		unread(t, l, 0, 9, who)
	}
	holds(t, l, fresh(1))
	read(t, l, 0, 6)
	holds(t, l, model{reading(6)})
}

func TestAWriterIsAlone(t *testing.T) { // P14.1, P14.5
	for _, writer := range goroutines {
		l, want := of(t, state{}, writing(writer), state{}), model{state{}, writing(writer), state{}}
		for _, by := range goroutines {
			if e := l.Read(1, by); e != api.ErrWriter {
				t.Errorf("Read by %d of one that %d writes: %v", by, writer, e)
			}
			if e := l.Write(1, by); e != api.ErrWriter {
				t.Errorf("Write by %d of one that %d writes: %v", by, writer, e)
			}
			if who, e := l.Unread(1, by); who != 0 || e != api.ErrNobody {
				t.Errorf("Unread by %d of one that %d writes: %d, %v", by, writer, who, e)
			}
			holds(t, l, want)
		}
		unwrite(t, l, 1, writer)
		read(t, l, 1, maxId-writer)
		holds(t, l, model{state{}, reading(maxId - writer), state{}})
	}
}

func TestNoWriterComesToReaders(t *testing.T) { // P14.1, P14.2, P14.5
	for _, reader := range goroutines {
		l, want := of(t, state{}, reading(reader, 8), state{}), model{state{}, reading(reader, 8), state{}}
		for _, by := range goroutines {
			if e := l.Write(1, by); e != api.ErrReaders {
				t.Errorf("Write by %d of one that %d reads: %v", by, reader, e)
			}
			if who, e := l.Unwrite(1); who != 0 || e != api.ErrNobody {
				t.Errorf("Unwrite of one that %d reads: %d, %v", reader, who, e)
			}
			holds(t, l, want)
		}
		unread(t, l, 1, reader, reader)
		if e := l.Write(1, reader); e != api.ErrReaders {
			t.Errorf("Write of one that is read yet: %v", e)
		}
		unread(t, l, 1, reader, 8)
		write(t, l, 1, reader)
		holds(t, l, model{state{}, writing(reader), state{}})
	}
}

func TestNobodyLeavesWhereNobodyIs(t *testing.T) { // P14.2
	for _, l := range []*rwlock.Locks{made(t, 3), of(t, reading(1), state{}, writing(2))} {
		for _, by := range goroutines {
			if who, e := l.Unread(1, by); who != 0 || e != api.ErrNobody {
				t.Errorf("Unread(1, %d): %d, %v", by, who, e)
			}
		}
		if who, e := l.Unwrite(1); who != 0 || e != api.ErrNobody {
			t.Errorf("Unwrite(1): %d, %v", who, e)
		}
	}
}

// mixed is so many, with readers, a writer, nobody, and so on.
func mixed(many int) model {
	m := fresh(many)
	for i := range m {
		switch i % 3 {
		case 0:
			m[i] = reading(9, i, 9)
		case 1:
			m[i] = writing(maxId - i)
		}
	}
	return m
}

func TestWhatMayNotBeIsRefused(t *testing.T) { // P14.1, P14.2
	for _, many := range []int{0, 1, 2, 3, maxObjects} {
		want := mixed(many)
		l := like(t, want)
		for _, by := range noGoroutines {
			// That the goroutine may not be goes ahead of the lock, there or not, whoever has it.
			for _, i := range append([]int{0, 1, 2, many - 1}, beyond(many)...) {
				if e := l.Read(i, by); e != api.ErrArg {
					t.Errorf("%d: Read(%d, %d): %v", many, i, by, e)
				}
				if e := l.Write(i, by); e != api.ErrArg {
					t.Errorf("%d: Write(%d, %d): %v", many, i, by, e)
				}
				if who, e := l.Unread(i, by); who != 0 || e != api.ErrArg {
					t.Errorf("%d: Unread(%d, %d): %d, %v", many, i, by, who, e)
				}
			}
		}
		holds(t, l, want)
	}
}

func TestWhatIsNotThereIsRefused(t *testing.T) { // P14.1, P14.2
	for _, many := range []int{0, 1, 2, 3, maxObjects} {
		want := mixed(many)
		l := like(t, want)
		for _, i := range beyond(many) {
			for _, by := range goroutines {
				if e := l.Read(i, by); e != api.ErrRange {
					t.Errorf("%d: Read(%d, %d): %v", many, i, by, e)
				}
				if e := l.Write(i, by); e != api.ErrRange {
					t.Errorf("%d: Write(%d, %d): %v", many, i, by, e)
				}
				if who, e := l.Unread(i, by); who != 0 || e != api.ErrRange {
					t.Errorf("%d: Unread(%d, %d): %d, %v", many, i, by, who, e)
				}
			}
			if who, e := l.Unwrite(i); who != 0 || e != api.ErrRange {
				t.Errorf("%d: Unwrite(%d): %d, %v", many, i, who, e)
			}
		}
		holds(t, l, want)
	}
}

func TestNoneAtAll(t *testing.T) { // P14.1, P14.2, P14.3, P14.4
	l := made(t, 0)
	if e := l.Read(0, 0); e != api.ErrRange {
		t.Errorf("Read: %v", e)
	}
	other := l.Copy()
	if other == nil || !rwlock.Same(l, other) {
		t.Fatalf("Copy: %v", other)
	}
	holds(t, l, fresh(0))
	holds(t, other, fresh(0))
}

func TestOfNone(t *testing.T) { // P14.1, P14.2, P14.3, P14.4
	for name, l := range nones() {
		for _, i := range append([]int{0, 1}, beyond(0)...) {
			// That there are none goes ahead of all else.
			for _, by := range slices.Concat(goroutines, noGoroutines) {
				who, e := l.Unread(i, by)
				if a, b := l.Read(i, by), l.Write(i, by); a != api.ErrNil || b != api.ErrNil || who != 0 || e != api.ErrNil {
					t.Errorf("%s: of %d, %d: %v, %v, %d, %v", name, i, by, a, b, who, e)
				}
			}
			if who, e := l.Unwrite(i); who != 0 || e != api.ErrNil {
				t.Errorf("%s: Unwrite(%d): %d, %v", name, i, who, e)
			}
			if who, is := l.Writer(i); who != 0 || is || len(l.Readers(i)) != 0 {
				t.Errorf("%s: %d: %d, %t, %v", name, i, who, is, l.Readers(i))
			}
		}
		if l.Len() != 0 || l.Copy() != nil {
			t.Errorf("%s: %d, %v", name, l.Len(), l.Copy())
		}
		s := l.Taken()
		if s == nil {
			t.Fatalf("%s: Taken is not there", name)
		}
		if got := append(all(s), all(s)...); len(got) != 0 {
			t.Errorf("%s: Taken: %v", name, got)
		}
	}
}

func TestAWalkOfNoneTellsNothingLater(t *testing.T) { // P14.3
	var l rwlock.Locks
	s := l.Taken()
	l = *of(t, reading(1), writing(7))
	if got := all(s); len(got) != 0 {
		t.Errorf("%v", got)
	}
}

func TestRefusedOnesAreAsNil(t *testing.T) { // P14.1
	l, _ := rwlock.New(maxObjects + 1)
	if e := l.Read(0, 0); e != api.ErrNil {
		t.Errorf("Read: %v", e)
	}
	if !rwlock.Same(l, nil) {
		t.Error("not as nil")
	}
}

func TestReadersAreNewMemory(t *testing.T) { // P14.3
	want := model{reading(3, 1, 3, 2)}
	l := like(t, want)
	a, b := l.Readers(0), l.Readers(0)
	a[0], a[3] = 8, 9
	_ = append(a, 7)
	_ = append(a[:1], 7)
	if !slices.Equal(b, want[0].readers) {
		t.Errorf("another answer is %v", b)
	}
	holds(t, l, want)
	unread(t, l, 0, 2, 2)
	read(t, l, 0, 5)
	if !slices.Equal(b, want[0].readers) {
		t.Errorf("an answer is %v when others have come and left", b)
	}
	holds(t, l, model{reading(3, 1, 3, 5)})
}

func TestTakenIsRising(t *testing.T) { // P14.3
	for step := 1; step < maxObjects; step += 2 {
		l, want := made(t, maxObjects), fresh(maxObjects)
		for at := range maxObjects {
			i := (at*step + 17) % maxObjects
			switch i % 4 {
			case 1:
				read(t, l, i, maxId-i, 0)
				want[i] = reading(maxId-i, 0)
			case 2:
				write(t, l, i, i)
				want[i] = writing(i)
			}
		}
		if got := all(l.Taken()); !slices.Equal(got, want.list()) {
			t.Fatalf("%v, not %v", got, want.list())
		}
	}
}

func TestTakenIsNotWhatWasLeft(t *testing.T) { // P14.3
	l := of(t, reading(1, 2), writing(0), reading(3))
	unread(t, l, 0, 1, 1)
	unread(t, l, 2, 3, 3)
	unwrite(t, l, 1, 0)
	if got, want := all(l.Taken()), []taken{{0, false}}; !slices.Equal(got, want) {
		t.Errorf("%v, not %v", got, want)
	}
}

// some are locks of which some are taken, both edges among them, as a model has them.
func some(t *testing.T) (*rwlock.Locks, model) {
	t.Helper()
	m := fresh(maxObjects)
	m[0], m[1], m[5] = writing(maxId), reading(0), reading(3, 4, 3)
	m[31], m[62], m[63] = writing(0), writing(1), reading(9, 0)
	return like(t, m), m
}

// leave lets all leave one.
func leave(l *rwlock.Locks, i int) {
	l.Unwrite(i)
	for range l.Readers(i) {
		l.Unread(i, 0)
	}
}

// empty lets all leave all.
func empty(l *rwlock.Locks) {
	for i := range l.Len() {
		leave(l, i)
	}
}

// turn lets all leave, and others come to each: a reader where a writer was, a writer else.
func turn(t *testing.T, l *rwlock.Locks) {
	t.Helper()
	for i := range l.Len() {
		_, written := l.Writer(i)
		leave(l, i)
		if written {
			read(t, l, i, 8)
		} else {
			write(t, l, i, 8)
		}
	}
	if got := all(l.Taken()); len(got) != l.Len() {
		t.Fatalf("others came to %v", got)
	}
}

func TestTakenIsLeftAndGoneOverAgain(t *testing.T) { // P14.3
	l, m := some(t)
	s, want := l.Taken(), m.list()
	for stop := range len(want) + 1 {
		if got := first(stop, s); !slices.Equal(got, want[:stop]) {
			t.Errorf("left behind %d: %v", stop, got)
		}
		if got := all(s); !slices.Equal(got, want) {
			t.Errorf("behind one that was left behind %d: %v", stop, got)
		}
	}
	many := 0
	for range s {
		many += len(all(s))
	}
	if many != len(want)*len(want) {
		t.Errorf("one in another: %d", many)
	}
}

func TestTakenGoesNoFurtherOnceItIsLeft(t *testing.T) { // P14.3
	l, m := some(t)
	for stop := 1; stop <= len(m.list()); stop++ {
		told := 0
		l.Taken()(func(int, bool) bool {
			told++
			return told < stop
		})
		if told != stop {
			t.Errorf("left behind %d, and %d were told", stop, told)
		}
	}
}

func TestTakenGoesOverWhatWas(t *testing.T) { // P14.3
	l, m := some(t)
	s, want := l.Taken(), m.list()
	empty(l)
	holds(t, l, fresh(maxObjects))
	if got := all(s); !slices.Equal(got, want) {
		t.Errorf("all left ahead of the walk: %v", got)
	}
	turn(t, l)
	if got := all(s); !slices.Equal(got, want) {
		t.Errorf("others came ahead of the walk: %v", got)
	}
	l, _ = some(t)
	var got []taken
	for i, written := range l.Taken() {
		got = append(got, taken{i, written})
		turn(t, l)
	}
	if !slices.Equal(got, want) {
		t.Errorf("others come while it is under way: %v", got)
	}
	l = made(t, 2)
	s = l.Taken()
	write(t, l, 1, 7)
	if got = all(s); len(got) != 0 {
		t.Errorf("of those that nobody had: %v", got)
	}
}

func TestLookingChangesNothing(t *testing.T) { // P14.3, P14.4
	l, want := some(t)
	for range 3 {
		holds(t, l, want)
		first(2, l.Taken())
		l.Copy()
		rwlock.Same(l, made(t, maxObjects))
	}
	holds(t, l, want)
}

func TestCopy(t *testing.T) { // P14.4
	was := model{reading(1, 2, 3, 2), writing(7), state{}, reading(0)}
	l := like(t, was)
	other := l.Copy()
	if other == l || !rwlock.Same(l, other) {
		t.Error("a copy is not another one with the same")
	}
	holds(t, other, was)
	unread(t, l, 0, 3, 3)
	read(t, l, 0, 4)
	unwrite(t, l, 1, 7)
	write(t, l, 2, 5)
	now := model{reading(1, 2, 2, 4), state{}, writing(5), reading(0)}
	holds(t, l, now)
	holds(t, other, was)
	unread(t, other, 0, 2, 2)
	read(t, other, 0, 6, 6)
	unread(t, other, 3, 0, 0)
	write(t, other, 3, 9)
	holds(t, l, now)
	holds(t, other, model{reading(1, 3, 2, 6, 6), writing(7), state{}, writing(9)})
	third := other.Copy()
	unread(t, third, 0, 9, 1)
	holds(t, third, model{reading(3, 2, 6, 6), writing(7), state{}, writing(9)})
	holds(t, other, model{reading(1, 3, 2, 6, 6), writing(7), state{}, writing(9)})
}

func TestACopyOfSpareRoomIsApart(t *testing.T) { // P14.4
	// Whoever comes to both could come to the same place of memory.
	for many := range 40 {
		l := made(t, 1)
		for by := range many {
			read(t, l, 0, by)
		}
		if many > 2 {
			unread(t, l, 0, 1, 1)
		}
		other, want := l.Copy(), l.Readers(0)
		read(t, l, 0, 100)
		read(t, other, 0, 200)
		holds(t, l, model{reading(append(slices.Clone(want), 100)...)})
		holds(t, other, model{reading(append(slices.Clone(want), 200)...)})
	}
}

func TestCopyOfFreshOnes(t *testing.T) { // P14.4
	for many := range maxObjects + 1 {
		l := made(t, many)
		other := l.Copy()
		if other == nil || other == l || !rwlock.Same(l, other) {
			t.Fatalf("%d: %v", many, other)
		}
		holds(t, other, fresh(many))
		for i := range many {
			if i%2 == 0 {
				write(t, other, i, 3)
			} else {
				read(t, other, i, 3)
			}
		}
		holds(t, l, fresh(many))
	}
}

func TestSame(t *testing.T) { // P14.4
	made := []func() *rwlock.Locks{
		func() *rwlock.Locks { return nil },
		func() *rwlock.Locks { return made(t, 0) },
		func() *rwlock.Locks { return made(t, 1) },
		func() *rwlock.Locks { return made(t, 2) },
		func() *rwlock.Locks { return made(t, maxObjects) },
		func() *rwlock.Locks { return of(t, reading(0)) },
		func() *rwlock.Locks { return of(t, reading(0, 0)) },
		func() *rwlock.Locks { return of(t, reading(1)) },
		func() *rwlock.Locks { return of(t, reading(maxId)) },
		func() *rwlock.Locks { return of(t, reading(0, 1)) },
		func() *rwlock.Locks { return of(t, reading(1, 0)) },
		func() *rwlock.Locks { return of(t, reading(0, 1, 0)) },
		func() *rwlock.Locks { return of(t, reading(1, 0, 0)) },
		func() *rwlock.Locks { return of(t, reading(1, 0, 2)) },
		func() *rwlock.Locks { return of(t, writing(0)) },
		func() *rwlock.Locks { return of(t, writing(1)) },
		func() *rwlock.Locks { return of(t, writing(maxId)) },
		func() *rwlock.Locks { return of(t, reading(0), state{}) },
		func() *rwlock.Locks { return of(t, state{}, reading(0)) },
		func() *rwlock.Locks { return of(t, reading(0), reading(0)) },
		func() *rwlock.Locks { return of(t, reading(0), writing(0)) },
		func() *rwlock.Locks { return of(t, writing(0), reading(0)) },
		func() *rwlock.Locks { return of(t, writing(0), writing(0)) },
		func() *rwlock.Locks { return of(t, writing(0), state{}) },
		func() *rwlock.Locks { return of(t, state{}, writing(0)) },
		func() *rwlock.Locks { return of(t, state{}, writing(0), state{}) },
	}
	for i, a := range made {
		for j, b := range made {
			if got := rwlock.Same(a(), b()); got != (i == j) {
				t.Errorf("%d, %d: %t", i, j, got)
			}
		}
		if one := a(); !rwlock.Same(one, one) {
			t.Errorf("%d is not as itself", i)
		}
	}
}

func TestSameOfNone(t *testing.T) { // P14.4
	for name, none := range nones() {
		for other, also := range nones() {
			if !rwlock.Same(none, also) {
				t.Errorf("%s, %s: not the same", name, other)
			}
		}
		for _, is := range []*rwlock.Locks{made(t, 0), made(t, 1), of(t, reading(1), writing(7))} {
			if rwlock.Same(none, is) || rwlock.Same(is, none) {
				t.Errorf("%s: the same as some that are there", name)
			}
		}
	}
}

func TestHowItCameMakesNoDifference(t *testing.T) { // P14.4
	a := of(t, reading(1, 2), writing(3), state{})
	b := of(t, writing(5), reading(4), writing(6))
	unwrite(t, b, 0, 5)
	read(t, b, 0, 9, 1, 7, 2)
	unread(t, b, 0, 7, 7)
	unread(t, b, 0, 0, 9)
	unread(t, b, 1, 0, 4)
	write(t, b, 1, 3)
	unwrite(t, b, 2, 6)
	b.Read(1, 4)
	b.Write(0, 4)
	b.Unread(2, 4)
	b.Unwrite(3)
	if !rwlock.Same(a, b) || !rwlock.Same(b, a) {
		t.Error("not the same, though each one has the same readers and writer")
	}
	empty(a)
	if !rwlock.Same(a, made(t, 3)) {
		t.Error("not as fresh ones, though all have left")
	}
}

func TestManyReaders(t *testing.T) { // P14.1, P14.2, P14.5
	const many = 1 << 18
	l := made(t, 2)
	for at := range many {
		if e := l.Read(1, at%(maxId+1)); e != api.OK {
			t.Fatalf("Read, behind %d: %v", at, e)
		}
	}
	if got := l.Readers(1); len(got) != many || got[many-1] != maxId {
		t.Fatalf("%d readers, of %d", len(got), many)
	}
	for at := range many {
		if at == many-3 {
			read(t, l, 1, 7, 8)
		}
		if who, e := l.Unread(1, at%(maxId+1)); who != at%(maxId+1) || e != api.OK {
			t.Fatalf("Unread, behind %d: %d, %v", at, who, e)
		}
	}
	holds(t, l, model{state{}, reading(7, 8)})
}

// counts are how many readers and writers are there, by an own count of what was not refused.
type counts struct {
	readers, writers int
}

// drawn does a call that is drawn to locks and to a model, holds the answers against each other, and counts.
func drawn(t *testing.T, r *rand.Rand, l *rwlock.Locks, want model, c []counts) {
	t.Helper()
	i, by := r.IntN(len(want)+2)-1, goroutines[r.IntN(5)]
	if r.IntN(12) == 0 {
		by = noGoroutines[r.IntN(len(noGoroutines))]
	}
	var who, should int
	var e, wanted api.Errno
	var n counts
	switch r.IntN(5) {
	case 0, 1:
		e, wanted, n.readers = l.Read(i, by), want.read(i, by), 1
	case 2:
		who, e = l.Unread(i, by)
		should, wanted = want.unread(i, by)
		n.readers = -1
	case 3:
		e, wanted, n.writers = l.Write(i, by), want.write(i, by), 1
	case 4:
		who, e = l.Unwrite(i)
		should, wanted = want.unwrite(i)
		n.writers = -1
	}
	if who != should || e != wanted {
		t.Fatalf("%+v by %d of %d: %d, %v, not %d, %v", n, by, i, who, e, should, wanted)
	}
	if e == api.OK {
		c[i].readers += n.readers
		c[i].writers += n.writers
	}
}

func TestDrawnRuns(t *testing.T) { // P14.1, P14.2, P14.3, P14.4, P14.5
	r := rand.New(rand.NewPCG(14, 14))
	for range 80 {
		many := r.IntN(5)
		l, want, c := made(t, many), fresh(many), make([]counts, many)
		for range 250 {
			kept, was := l.Copy(), want.clone()
			drawn(t, r, l, want, c)
			holds(t, l, want)
			holds(t, kept, was)
			if rwlock.Same(l, kept) != want.same(was) {
				t.Fatalf("Same of %v and %v", want, was)
			}
			for i, n := range c {
				_, is := l.Writer(i)
				if len(l.Readers(i)) != n.readers || is != (n.writers == 1) || n.writers > 1 || n.writers*n.readers != 0 {
					t.Fatalf("%d has %v and a writer is %t, where there are %+v", i, l.Readers(i), is, n)
				}
			}
		}
	}
}
