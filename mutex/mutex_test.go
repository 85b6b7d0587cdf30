package mutex_test

import (
	"math/rand/v2"
	"slices"
	"testing"

	"linesman/api"
	"linesman/mutex"
)

func TestNew(t *testing.T) { // P13.1, P13.2
	for many := range maxObjects + 1 {
		holds(t, made(t, many), free(many))
	}
	m := locked(t, 2, held{1, 7})
	holds(t, made(t, 2), free(2))
	holds(t, m, model{-1, 7})
}

func TestNewRefuses(t *testing.T) { // P13.1
	for _, many := range append([]int{-2, -1, maxObjects + 1, maxObjects + 2, 128, maxId}, huge...) {
		if m, e := mutex.New(many); m != nil || e != api.ErrArg {
			t.Errorf("New(%d): %v, %v", many, m, e)
		}
	}
}

func TestTheChaptersExample(t *testing.T) { // P13.1
	m := locked(t, 2, held{1, 7})
	if e := m.Lock(1, 7); e != api.ErrHeld {
		t.Errorf("Lock of one that is held: %v", e)
	}
	if by, e := m.Unlock(1); by != 7 || e != api.OK {
		t.Errorf("Unlock: %d, %v", by, e)
	}
	if by, e := m.Unlock(1); by != 0 || e != api.ErrFree {
		t.Errorf("Unlock of a free one: %d, %v", by, e)
	}
	if e := m.Lock(2, 0); e != api.ErrRange {
		t.Errorf("Lock of one that is not there: %v", e)
	}
	holds(t, m, free(2))
}

func TestEachIsLockedByEach(t *testing.T) { // P13.1, P13.2
	for _, many := range []int{1, 2, 3, 63, maxObjects} {
		for i := range many {
			for _, by := range goroutines {
				m, want := locked(t, many, held{i, by}), free(many)
				want[i] = by
				holds(t, m, want)
				unlock(t, m, held{i, by})
				holds(t, m, free(many))
			}
		}
	}
}

func TestOneHoldsSeveral(t *testing.T) { // P13.1, P13.2
	for _, by := range goroutines {
		m, want := made(t, maxObjects), free(maxObjects)
		for at := range maxObjects {
			i := at * 29 % maxObjects
			lock(t, m, held{i, by})
			want[i] = by
			holds(t, m, want)
		}
		for at := range maxObjects {
			i := at * 45 % maxObjects
			unlock(t, m, held{i, by})
			want[i] = -1
			holds(t, m, want)
		}
	}
}

func TestLockRefusesWhatIsHeld(t *testing.T) { // P13.1, P13.4
	for _, holder := range goroutines {
		m := locked(t, 3, held{1, holder})
		for _, by := range goroutines {
			if e := m.Lock(1, by); e != api.ErrHeld {
				t.Errorf("Lock by %d of one that %d holds: %v", by, holder, e)
			}
			holds(t, m, model{-1, holder, -1})
		}
		unlock(t, m, held{1, holder})
		lock(t, m, held{1, maxId - holder})
		holds(t, m, model{-1, maxId - holder, -1})
	}
}

func TestLockRefusesWhatMayNotBe(t *testing.T) { // P13.1
	for _, many := range []int{0, 1, 2, maxObjects} {
		m, want := made(t, many), free(many)
		for i := range many / 2 {
			lock(t, m, held{i, 9})
			want[i] = 9
		}
		for _, by := range noGoroutines {
			// That the goroutine may not be goes ahead of the mutex, there or not, held or not.
			for _, i := range append([]int{0, 1, many - 1}, beyond(many)...) {
				if e := m.Lock(i, by); e != api.ErrArg {
					t.Errorf("%d: Lock(%d, %d): %v", many, i, by, e)
				}
			}
		}
		for _, by := range goroutines {
			for _, i := range beyond(many) {
				if e := m.Lock(i, by); !want.has(i) && e != api.ErrRange {
					t.Errorf("%d: Lock(%d, %d): %v", many, i, by, e)
				}
			}
		}
		holds(t, m, want)
	}
}

func TestUnlockRefuses(t *testing.T) { // P13.1
	for _, many := range []int{0, 1, 2, maxObjects} {
		m, want := made(t, many), free(many)
		for i := range many / 2 {
			lock(t, m, held{i, i + 5})
			want[i] = i + 5
		}
		for _, i := range beyond(many) {
			if by, e := m.Unlock(i); !want.has(i) && (by != 0 || e != api.ErrRange) {
				t.Errorf("%d: Unlock(%d): %d, %v", many, i, by, e)
			}
		}
		for i := many / 2; i < many; i++ {
			if by, e := m.Unlock(i); by != 0 || e != api.ErrFree {
				t.Errorf("%d: Unlock(%d): %d, %v", many, i, by, e)
			}
		}
		holds(t, m, want)
	}
}

func TestNoneAtAll(t *testing.T) { // P13.1, P13.2, P13.3
	m := made(t, 0)
	if e := m.Lock(0, 0); e != api.ErrRange {
		t.Errorf("Lock: %v", e)
	}
	if by, e := m.Unlock(0); by != 0 || e != api.ErrRange {
		t.Errorf("Unlock: %d, %v", by, e)
	}
	other := m.Copy()
	if other == nil || !mutex.Same(m, other) {
		t.Fatalf("Copy: %v", other)
	}
	holds(t, other, free(0))
}

func TestOfNone(t *testing.T) { // P13.1, P13.2, P13.3
	for name, m := range nones() {
		for _, i := range append([]int{0, 1}, beyond(0)...) {
			// That there are none goes ahead of all else.
			for _, by := range slices.Concat(goroutines, noGoroutines) {
				if e := m.Lock(i, by); e != api.ErrNil {
					t.Errorf("%s: Lock(%d, %d): %v", name, i, by, e)
				}
			}
			if by, e := m.Unlock(i); by != 0 || e != api.ErrNil {
				t.Errorf("%s: Unlock(%d): %d, %v", name, i, by, e)
			}
			if by, is := m.Holder(i); by != 0 || is {
				t.Errorf("%s: Holder(%d): %d, %t", name, i, by, is)
			}
		}
		if m.Len() != 0 || m.Copy() != nil {
			t.Errorf("%s: %d, %v", name, m.Len(), m.Copy())
		}
		s := m.Held()
		if s == nil {
			t.Fatalf("%s: Held is not there", name)
		}
		if l := append(all(s), all(s)...); len(l) != 0 {
			t.Errorf("%s: Held: %v", name, l)
		}
	}
}

func TestAWalkOfNoneTellsNothingLater(t *testing.T) { // P13.2
	var m mutex.Mutexes
	s := m.Held()
	m = *locked(t, 2, held{1, 7})
	if l := all(s); len(l) != 0 {
		t.Errorf("%v", l)
	}
}

func TestRefusedOnesAreAsNil(t *testing.T) { // P13.1
	m, _ := mutex.New(maxObjects + 1)
	if e := m.Lock(0, 0); e != api.ErrNil {
		t.Errorf("Lock: %v", e)
	}
	if !mutex.Same(m, nil) {
		t.Error("not as nil")
	}
}

func TestHeldIsRising(t *testing.T) { // P13.2
	for step := 1; step < maxObjects; step += 2 {
		m := made(t, maxObjects)
		for at := range maxObjects {
			i := (at*step + 17) % maxObjects
			if i%3 > 0 {
				lock(t, m, held{i, maxId - i})
			}
		}
		var want []held
		for i := range maxObjects {
			if i%3 > 0 {
				want = append(want, held{i, maxId - i})
			}
		}
		if got := all(m.Held()); !slices.Equal(got, want) {
			t.Fatalf("%v, not %v", got, want)
		}
	}
}

// some are mutexes of which some are held, both edges among them, and which.
func some(t *testing.T) (*mutex.Mutexes, []held) {
	l := []held{{0, maxId}, {1, 0}, {5, 3}, {31, 3}, {62, 1}, {63, 0}}
	return locked(t, maxObjects, l...), l
}

func TestHeldIsLeftAndGoneOverAgain(t *testing.T) { // P13.2
	m, l := some(t)
	s := m.Held()
	for stop := range len(l) + 1 {
		if got := first(stop, s); !slices.Equal(got, l[:stop]) {
			t.Errorf("left behind %d: %v", stop, got)
		}
		if got := all(s); !slices.Equal(got, l) {
			t.Errorf("behind one that was left behind %d: %v", stop, got)
		}
	}
	many := 0
	for range s {
		many += len(all(s))
	}
	if many != len(l)*len(l) {
		t.Errorf("one in another: %d", many)
	}
}

func TestHeldGoesNoFurtherOnceItIsLeft(t *testing.T) { // P13.2
	m, l := some(t)
	for stop := 1; stop <= len(l); stop++ {
		told := 0
		m.Held()(func(int, int) bool {
			told++
			return told < stop
		})
		if told != stop {
			t.Errorf("left behind %d, and %d were told", stop, told)
		}
	}
}

func TestHeldGoesOverWhatWas(t *testing.T) { // P13.2
	m, l := some(t)
	s := m.Held()
	unlock(t, m, l...)
	if got := all(s); !slices.Equal(got, l) {
		t.Errorf("unlocked ahead of the walk: %v", got)
	}
	for i := range maxObjects {
		lock(t, m, held{i, 9})
	}
	if got := all(s); !slices.Equal(got, l) {
		t.Errorf("locked ahead of the walk: %v", got)
	}
	m, l = some(t)
	s = m.Held()
	var got []held
	for i, by := range s {
		got = append(got, held{i, by})
		if len(got) == 1 {
			unlock(t, m, l...)
			for i := range maxObjects {
				lock(t, m, held{i, 8})
			}
		}
	}
	if !slices.Equal(got, l) {
		t.Errorf("locked while it is under way: %v", got)
	}
	m = made(t, 2)
	s = m.Held()
	lock(t, m, held{1, 7})
	if got = all(s); len(got) != 0 {
		t.Errorf("of free ones: %v", got)
	}
}

func TestLookingChangesNothing(t *testing.T) { // P13.2
	m, l := some(t)
	want := free(maxObjects)
	for _, h := range l {
		want[h.i] = h.by
	}
	for range 3 {
		holds(t, m, want)
		first(2, m.Held())
		m.Copy()
		mutex.Same(m, made(t, maxObjects))
	}
	holds(t, m, want)
}

func TestCopy(t *testing.T) { // P13.3
	m := locked(t, 4, held{1, 7}, held{2, 0})
	other := m.Copy()
	if other == m || !mutex.Same(m, other) {
		t.Error("a copy is not another one with the same")
	}
	holds(t, other, model{-1, 7, 0, -1})
	lock(t, m, held{0, 5})
	unlock(t, m, held{1, 7})
	holds(t, m, model{5, -1, 0, -1})
	holds(t, other, model{-1, 7, 0, -1})
	lock(t, other, held{3, 6}, held{0, 4})
	unlock(t, other, held{2, 0})
	holds(t, m, model{5, -1, 0, -1})
	holds(t, other, model{4, 7, -1, 6})
	third := other.Copy()
	unlock(t, third, held{3, 6})
	holds(t, third, model{4, 7, -1, -1})
	holds(t, other, model{4, 7, -1, 6})
}

func TestCopyOfFreeOnes(t *testing.T) { // P13.3
	for many := range maxObjects + 1 {
		m := made(t, many)
		other := m.Copy()
		if other == nil || other == m || !mutex.Same(m, other) {
			t.Fatalf("%d: %v", many, other)
		}
		holds(t, other, free(many))
		if many > 0 {
			lock(t, other, held{many - 1, 3})
			holds(t, m, free(many))
		}
	}
}

func TestSame(t *testing.T) { // P13.3
	made := []func() *mutex.Mutexes{
		func() *mutex.Mutexes { return nil },
		func() *mutex.Mutexes { return made(t, 0) },
		func() *mutex.Mutexes { return made(t, 1) },
		func() *mutex.Mutexes { return made(t, 2) },
		func() *mutex.Mutexes { return made(t, maxObjects) },
		func() *mutex.Mutexes { return locked(t, 1, held{0, 0}) },
		func() *mutex.Mutexes { return locked(t, 2, held{0, 0}) },
		func() *mutex.Mutexes { return locked(t, 2, held{1, 0}) },
		func() *mutex.Mutexes { return locked(t, 2, held{0, 1}) },
		func() *mutex.Mutexes { return locked(t, 2, held{0, maxId}) },
		func() *mutex.Mutexes { return locked(t, 2, held{0, 0}, held{1, 0}) },
		func() *mutex.Mutexes { return locked(t, 2, held{0, 1}, held{1, 0}) },
		func() *mutex.Mutexes { return locked(t, 2, held{0, 0}, held{1, 1}) },
		func() *mutex.Mutexes { return locked(t, 3, held{0, 0}, held{1, 1}) },
		func() *mutex.Mutexes { return locked(t, 3, held{0, 0}, held{2, 1}) },
	}
	for i, a := range made {
		for j, b := range made {
			if got := mutex.Same(a(), b()); got != (i == j) {
				t.Errorf("%d, %d: %t", i, j, got)
			}
		}
		if one := a(); !mutex.Same(one, one) {
			t.Errorf("%d is not as itself", i)
		}
	}
}

func TestSameOfNone(t *testing.T) { // P13.3
	for name, none := range nones() {
		for other, also := range nones() {
			if !mutex.Same(none, also) {
				t.Errorf("%s, %s: not the same", name, other)
			}
		}
		for _, is := range []*mutex.Mutexes{made(t, 0), made(t, 1), locked(t, 2, held{1, 7})} {
			if mutex.Same(none, is) || mutex.Same(is, none) {
				t.Errorf("%s: the same as some that are there", name)
			}
		}
	}
}

func TestHowItCameMakesNoDifference(t *testing.T) { // P13.3
	a := locked(t, 3, held{0, 1}, held{1, 2}, held{2, 3})
	b := locked(t, 3, held{2, 9}, held{1, 2})
	unlock(t, b, held{2, 9})
	lock(t, b, held{0, 1}, held{2, 3})
	b.Lock(0, 4)
	b.Lock(3, 4)
	b.Unlock(3)
	if !mutex.Same(a, b) || !mutex.Same(b, a) {
		t.Error("not the same, though each one has the same holder")
	}
	unlock(t, a, held{0, 1}, held{1, 2}, held{2, 3})
	if !mutex.Same(a, made(t, 3)) {
		t.Error("not as fresh ones, though all are free")
	}
}

func TestDrawnRuns(t *testing.T) { // P13.1, P13.2, P13.3, P13.4
	r := rand.New(rand.NewPCG(13, 13))
	for range 60 {
		many := r.IntN(7)
		m, want := made(t, many), free(many)
		taken := make([]bool, many) // by an own count of what was not refused
		for range 200 {
			i, by := r.IntN(many+2)-1, goroutines[r.IntN(len(goroutines))]
			if r.IntN(9) == 0 {
				by = noGoroutines[r.IntN(len(noGoroutines))]
			}
			kept, was := m.Copy(), slices.Clone(want)
			if r.IntN(2) == 0 {
				e := m.Lock(i, by)
				if e == api.OK && taken[i] {
					t.Fatalf("%d has two holders", i)
				}
				if should := want.lock(i, by); e != should {
					t.Fatalf("Lock(%d, %d): %v, not %v", i, by, e, should)
				}
				if e == api.OK {
					taken[i] = true
				}
			} else {
				by, e := m.Unlock(i)
				if who, should := want.unlock(i); e != should || by != who {
					t.Fatalf("Unlock(%d): %d, %v, not %d, %v", i, by, e, who, should)
				}
				if e == api.OK {
					taken[i] = false
				}
			}
			holds(t, m, want)
			holds(t, kept, was)
			if mutex.Same(m, kept) != slices.Equal(want, was) {
				t.Fatalf("Same of %v and %v", want, was)
			}
		}
	}
}
