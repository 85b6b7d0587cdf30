package mutex_test

import (
	"iter"
	"math"
	"slices"
	"testing"

	"linesman/api"
	"linesman/mutex"
)

const (
	maxObjects = 64
	maxId      = 65535
)

// huge are numbers that nothing has so many of.
var huge = []int{math.MinInt, math.MinInt + 1, -1 << 32, -1 << 16, 1 << 16, 1 << 31, 1 << 32, 1<<32 + 1, math.MaxInt - 1, math.MaxInt}

// goroutines are such as may be, both edges included; noGoroutines may not.
var (
	goroutines   = []int{0, 1, 2, 63, 64, 65, 255, 256, 1 << 15, maxId - 1, maxId}
	noGoroutines = append([]int{-2, -1, maxId + 1, maxId + 2}, huge...)
)

// beyond are numbers of mutexes that are not there, where there are so many.
func beyond(many int) []int {
	return append([]int{-2, -1, many, many + 1, maxObjects, maxObjects + 1, maxId}, huge...)
}

// held is a mutex and who holds it.
type held struct {
	i, by int
}

// model is mutexes as the chapter says them: a list of who holds each, -1 of a free one.
type model []int

// free is so many, all free.
func free(many int) model {
	return slices.Repeat(model{-1}, many)
}

// has tells if a mutex is there.
func (m model) has(i int) bool {
	return i >= 0 && i < len(m)
}

// lock is what Lock has to do and to answer.
func (m model) lock(i, by int) api.Errno {
	if by < 0 || by > maxId {
		return 2
	}
	if !m.has(i) {
		return 4
	}
	if m[i] >= 0 {
		return 230
	}
	m[i] = by
	return 0
}

// unlock is what Unlock has to do and to answer.
func (m model) unlock(i int) (int, api.Errno) {
	if !m.has(i) {
		return 0, 4
	}
	by := m[i]
	if by < 0 {
		return 0, 231
	}
	m[i] = -1
	return by, 0
}

// list is what Held has to go over.
func (m model) list() []held {
	var l []held
	for i, by := range m {
		if by >= 0 {
			l = append(l, held{i, by})
		}
	}
	return l
}

// made is so many that may be.
func made(t *testing.T, many int) *mutex.Mutexes {
	t.Helper()
	m, e := mutex.New(many)
	if m == nil || e != api.OK {
		t.Fatalf("New(%d): %v, %v", many, m, e)
	}
	return m
}

// locked is so many, some of them held.
func locked(t *testing.T, many int, l ...held) *mutex.Mutexes {
	t.Helper()
	m := made(t, many)
	lock(t, m, l...)
	return m
}

// lock locks some where nothing may be refused.
func lock(t *testing.T, m *mutex.Mutexes, l ...held) {
	t.Helper()
	for _, h := range l {
		if e := m.Lock(h.i, h.by); e != api.OK {
			t.Fatalf("Lock(%d, %d): %v", h.i, h.by, e)
		}
	}
}

// unlock unlocks some where nothing may be refused.
func unlock(t *testing.T, m *mutex.Mutexes, l ...held) {
	t.Helper()
	for _, h := range l {
		if by, e := m.Unlock(h.i); by != h.by || e != api.OK {
			t.Fatalf("Unlock(%d): %d, %v, not %d", h.i, by, e, h.by)
		}
	}
}

// first are the first few of a walk, all below 0.
func first(many int, s iter.Seq2[int, int]) []held {
	var l []held
	if many == 0 {
		return l
	}
	for i, by := range s {
		l = append(l, held{i, by})
		if len(l) == many {
			break
		}
	}
	return l
}

// all are all of a walk.
func all(s iter.Seq2[int, int]) []held {
	return first(-1, s)
}

// holds holds all that mutexes tell against a model.
func holds(t *testing.T, m *mutex.Mutexes, want model) {
	t.Helper()
	if m.Len() != len(want) {
		t.Fatalf("Len = %d, not %d", m.Len(), len(want))
	}
	for i, holder := range want {
		by, is := m.Holder(i)
		if is != (holder >= 0) || by != max(holder, 0) {
			t.Fatalf("Holder(%d) = %d, %t, not %d", i, by, is, holder)
		}
	}
	for _, i := range beyond(len(want)) {
		if by, is := m.Holder(i); !want.has(i) && (by != 0 || is) {
			t.Fatalf("Holder(%d) = %d, %t, where there are %d", i, by, is, len(want))
		}
	}
	if got := all(m.Held()); !slices.Equal(got, want.list()) {
		t.Fatalf("Held: %v, not %v", got, want.list())
	}
}

// nones are mutexes that are none.
func nones() map[string]*mutex.Mutexes {
	return map[string]*mutex.Mutexes{"nil": nil, "zero": {}}
}
