package group_test

import (
	"iter"
	"math"
	"math/big"
	"slices"
	"testing"

	"linesman/api"
	"linesman/group"
)

const (
	maxObjects = 64
	maxCount   = 2147483647
)

// huge are numbers that nothing has so many of.
var huge = []int{math.MinInt, math.MinInt + 1, -1 << 32, -1 << 16, 1 << 16, 1 << 31, 1 << 32, 1<<32 + 1, math.MaxInt - 1, math.MaxInt}

// counted are counts that may be, both edges included; far are such as no count may be made more or less by.
var (
	counted = []int64{0, 1, 2, 3, 255, 256, 65535, 65536, 1 << 30, maxCount - 2, maxCount - 1, maxCount}
	far     = []int64{
		math.MinInt64, math.MinInt64 + 1, math.MinInt64 + maxCount, -1 << 62, -1<<33 + 1, -1 << 32, -1<<32 + 1, -maxCount - 2, -maxCount - 1,
		maxCount + 1, maxCount + 2, 1<<32 - 1, 1 << 32, 1<<32 + 1, 1 << 33, 1 << 62, math.MaxInt64 - maxCount, math.MaxInt64 - 1, math.MaxInt64,
	}
)

// beyond are numbers of groups that are not there, where there are so many.
func beyond(many int) []int {
	l := []int{-2, -1, many, many + 1, maxCount}
	if many < maxObjects {
		l = append(l, maxObjects-1, maxObjects, maxObjects+1)
	}
	return append(l, huge...)
}

// open is a group that is not done, and its count.
type open struct {
	i     int
	count int64
}

// model is groups as the chapter says them, by their counts.
type model []int64

// fresh is so many, all done.
func fresh(many int) model {
	return make(model, many)
}

// add is what Add has to do and to answer; the sum is reckoned where nothing is out of bounds.
func (m model) add(i int, n int64) (int64, api.Errno) {
	if i < 0 || i >= len(m) {
		return 0, 4
	}
	sum := new(big.Int).Add(big.NewInt(m[i]), big.NewInt(n))
	if sum.Sign() < 0 || sum.Cmp(big.NewInt(maxCount)) > 0 {
		return 0, 250
	}
	m[i] = sum.Int64()
	return m[i], 0
}

// list is what Open has to go over.
func (m model) list() []open {
	var l []open
	for i, count := range m {
		if count != 0 {
			l = append(l, open{i, count})
		}
	}
	return l
}

// made is so many that may be.
func made(t *testing.T, many int) *group.Groups {
	t.Helper()
	g, e := group.New(many)
	if g == nil || e != api.OK {
		t.Fatalf("New(%d): %v, %v", many, g, e)
	}
	return g
}

// of is groups with such counts.
func of(t *testing.T, counts ...int64) *group.Groups {
	t.Helper()
	g := made(t, len(counts))
	for i, n := range counts {
		add(t, g, i, n, n)
	}
	return g
}

// add adds what may not be refused, and asks what the count is then.
func add(t *testing.T, g *group.Groups, i int, n, want int64) {
	t.Helper()
	if got, e := g.Add(i, n); got != want || e != api.OK {
		t.Fatalf("Add(%d, %d): %d, %v, not %d", i, n, got, e, want)
	}
}

// refuse adds what has to be refused.
func refuse(t *testing.T, g *group.Groups, i int, n int64, want api.Errno) {
	t.Helper()
	if got, e := g.Add(i, n); got != 0 || e != want {
		t.Fatalf("Add(%d, %d): %d, %v, not %v", i, n, got, e, want)
	}
}

// begin are the first few of a walk, all of them below 0.
func begin(many int, s iter.Seq2[int, int64]) []open {
	var l []open
	if many == 0 {
		return l
	}
	for i, count := range s {
		l = append(l, open{i, count})
		if len(l) == many {
			break
		}
	}
	return l
}

// all are all of a walk.
func all(s iter.Seq2[int, int64]) []open {
	return begin(-1, s)
}

// holds holds all that groups tell against a model.
func holds(t *testing.T, g *group.Groups, want model) {
	t.Helper()
	if g.Len() != len(want) {
		t.Fatalf("Len = %d, not %d", g.Len(), len(want))
	}
	for i, count := range want {
		if g.Count(i) != count || g.Done(i) != (count == 0) {
			t.Fatalf("Count(%d) = %d, Done(%d) = %t, not %d", i, g.Count(i), i, g.Done(i), count)
		}
	}
	for _, i := range beyond(len(want)) {
		if g.Count(i) != 0 || g.Done(i) {
			t.Fatalf("Count(%d) = %d, Done(%d) = %t, where there are %d", i, g.Count(i), i, g.Done(i), len(want))
		}
	}
	if got := all(g.Open()); !slices.Equal(got, want.list()) {
		t.Fatalf("Open: %v, not %v", got, want.list())
	}
}

// nones are groups that are none.
func nones() map[string]*group.Groups {
	return map[string]*group.Groups{"nil": nil, "zero": {}}
}
