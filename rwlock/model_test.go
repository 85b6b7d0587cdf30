package rwlock_test

import (
	"iter"
	"math"
	"slices"
	"testing"

	"linesman/api"
	"linesman/rwlock"
)

const (
	maxObjects = 64
	maxId      = 65535
)

// huge are numbers that nothing has so many of.
var huge = []int{math.MinInt, math.MinInt + 1, -1 << 32, -1 << 16, 1 << 16, 1 << 31, 1 << 32, 1<<32 + 1, math.MaxInt - 1, math.MaxInt}

// goroutines are such as may be, both edges included; noGoroutines may not.
var (
	goroutines   = []int{0, 1, 2, 63, 64, 65, 255, 256, 1 << 15, maxId - 1, maxId}
	noGoroutines = append([]int{-2, -1, maxId + 1, maxId + 2}, huge...)
)

// beyond are numbers of locks that are not there, where there are so many.
func beyond(many int) []int {
	l := []int{-2, -1, many, many + 1, maxId}
	if many < maxObjects {
		l = append(l, maxObjects-1, maxObjects, maxObjects+1)
	}
	return append(l, huge...)
}

// taken is a lock that somebody has, and whether that is a writer.
type taken struct {
	i       int
	written bool
}

// state is who has a lock: its readers in their order, and its writers, none or one.
type state struct {
	readers []int
	writers []int
}

// model is locks as the chapter says them.
type model []state

// fresh is so many, without readers and writers.
func fresh(many int) model {
	return make(model, many)
}

// reading is a lock with readers; writing is one with a writer.
func reading(readers ...int) state { return state{readers: readers} }
func writing(writer int) state     { return state{writers: []int{writer}} }

// clone is the same model in new memory.
func (m model) clone() model {
	l := slices.Clone(m)
	for i, s := range m {
		l[i] = state{slices.Clone(s.readers), slices.Clone(s.writers)}
	}
	return l
}

// same tells if two models are.
func (m model) same(other model) bool {
	return slices.EqualFunc(m, other, func(a, b state) bool {
		return slices.Equal(a.readers, b.readers) && slices.Equal(a.writers, b.writers)
	})
}

// has tells if a lock is there.
func (m model) has(i int) bool {
	return i >= 0 && i < len(m)
}

// named is what a call has to answer that names a goroutine and a lock, whoever has it.
func (m model) named(i, by int) api.Errno {
	if by < 0 || by > maxId {
		return 2
	}
	if !m.has(i) {
		return 4
	}
	return 0
}

// read is what Read has to do and to answer.
func (m model) read(i, by int) api.Errno {
	if e := m.named(i, by); e != 0 {
		return e
	}
	if len(m[i].writers) > 0 {
		return 240
	}
	m[i].readers = append(m[i].readers, by)
	return 0
}

// write is what Write has to do and to answer.
func (m model) write(i, by int) api.Errno {
	if e := m.named(i, by); e != 0 {
		return e
	}
	if len(m[i].writers) > 0 {
		return 240
	}
	if len(m[i].readers) > 0 {
		return 241
	}
	m[i].writers = []int{by}
	return 0
}

// unread is what Unread has to do and to answer.
func (m model) unread(i, by int) (int, api.Errno) {
	if e := m.named(i, by); e != 0 {
		return 0, e
	}
	s := &m[i]
	if len(s.readers) == 0 {
		return 0, 242
	}
	at := max(slices.Index(s.readers, by), 0)
	who := s.readers[at]
	s.readers = slices.Concat(s.readers[:at], s.readers[at+1:])
	return who, 0
}

// unwrite is what Unwrite has to do and to answer.
func (m model) unwrite(i int) (int, api.Errno) {
	if e := m.named(i, 0); e != 0 {
		return 0, e
	}
	if len(m[i].writers) == 0 {
		return 0, 242
	}
	who := m[i].writers[0]
	m[i].writers = nil
	return who, 0
}

// list is what Taken has to go over.
func (m model) list() []taken {
	var l []taken
	for i, s := range m {
		if len(s.readers)+len(s.writers) > 0 {
			l = append(l, taken{i, len(s.writers) > 0})
		}
	}
	return l
}

// made is so many that may be.
func made(t *testing.T, many int) *rwlock.Locks {
	t.Helper()
	l, e := rwlock.New(many)
	if l == nil || e != api.OK {
		t.Fatalf("New(%d): %v, %v", many, l, e)
	}
	return l
}

// like is locks to which have come whom a model has.
func like(t *testing.T, m model) *rwlock.Locks {
	t.Helper()
	l := made(t, len(m))
	for i, s := range m {
		read(t, l, i, s.readers...)
		for _, by := range s.writers {
			write(t, l, i, by)
		}
	}
	return l
}

// of is locks of which each is had so.
func of(t *testing.T, m ...state) *rwlock.Locks {
	t.Helper()
	return like(t, m)
}

// read lets readers come where none may be refused.
func read(t *testing.T, l *rwlock.Locks, i int, ids ...int) {
	t.Helper()
	for _, by := range ids {
		if e := l.Read(i, by); e != api.OK {
			t.Fatalf("Read(%d, %d): %v", i, by, e)
		}
	}
}

// write lets a writer come where it may not be refused.
func write(t *testing.T, l *rwlock.Locks, i, by int) {
	t.Helper()
	if e := l.Write(i, by); e != api.OK {
		t.Fatalf("Write(%d, %d): %v", i, by, e)
	}
}

// unread lets a reader leave, and asks who went.
func unread(t *testing.T, l *rwlock.Locks, i, by, want int) {
	t.Helper()
	if who, e := l.Unread(i, by); who != want || e != api.OK {
		t.Fatalf("Unread(%d, %d): %d, %v, not %d", i, by, who, e, want)
	}
}

// unwrite lets a writer leave, and asks who it was.
func unwrite(t *testing.T, l *rwlock.Locks, i, want int) {
	t.Helper()
	if who, e := l.Unwrite(i); who != want || e != api.OK {
		t.Fatalf("Unwrite(%d): %d, %v, not %d", i, who, e, want)
	}
}

// first are the first few of a walk, all below 0.
func first(many int, s iter.Seq2[int, bool]) []taken {
	var l []taken
	if many == 0 {
		return l
	}
	for i, written := range s {
		l = append(l, taken{i, written})
		if len(l) == many {
			break
		}
	}
	return l
}

// all are all of a walk.
func all(s iter.Seq2[int, bool]) []taken {
	return first(-1, s)
}

// holds holds all that locks tell against a model.
func holds(t *testing.T, l *rwlock.Locks, want model) {
	t.Helper()
	if l.Len() != len(want) {
		t.Fatalf("Len = %d, not %d", l.Len(), len(want))
	}
	for i, s := range want {
		if got := l.Readers(i); !slices.Equal(got, s.readers) {
			t.Fatalf("Readers(%d) = %v, not %v", i, got, s.readers)
		}
		who, is := l.Writer(i)
		if is != (len(s.writers) > 0) || is && who != s.writers[0] || !is && who != 0 {
			t.Fatalf("Writer(%d) = %d, %t, not %v", i, who, is, s.writers)
		}
	}
	for _, i := range beyond(len(want)) {
		if who, is := l.Writer(i); who != 0 || is {
			t.Fatalf("Writer(%d) = %d, %t, where there are %d", i, who, is, len(want))
		}
		if got := l.Readers(i); len(got) != 0 {
			t.Fatalf("Readers(%d) = %v, where there are %d", i, got, len(want))
		}
	}
	if got := all(l.Taken()); !slices.Equal(got, want.list()) {
		t.Fatalf("Taken: %v, not %v", got, want.list())
	}
}

// nones are locks that are none.
func nones() map[string]*rwlock.Locks {
	return map[string]*rwlock.Locks{"nil": nil, "zero": {}}
}
