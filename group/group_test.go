package group_test

import (
	"math/big"
	"math/rand/v2"
	"slices"
	"testing"

	"linesman/api"
	"linesman/group"
)

func TestNew(t *testing.T) { // P15.1, P15.2
	for many := range maxObjects + 1 {
		holds(t, made(t, many), fresh(many))
	}
	g := of(t, 7, 5)
	holds(t, made(t, 2), fresh(2))
	holds(t, g, model{7, 5})
}

func TestNewRefuses(t *testing.T) { // P15.1
	for _, many := range append([]int{-2, -1, maxObjects + 1, maxObjects + 2, 128, maxCount}, huge...) {
		if g, e := group.New(many); g != nil || e != api.ErrArg {
			t.Errorf("New(%d): %v, %v", many, g, e)
		}
	}
}

func TestTheChaptersExamples(t *testing.T) { // P15.1, P15.2
	g := made(t, 1)
	add(t, g, 0, 2, 2)
	refuse(t, g, 0, -3, api.ErrCount)
	add(t, g, 0, -2, 0)
	if !g.Done(0) {
		t.Error("not done")
	}
	refuse(t, g, 0, 1<<31, api.ErrCount)
	refuse(t, g, 1, 1, api.ErrRange)
	holds(t, g, fresh(1))
}

func TestEachCountsToEach(t *testing.T) { // P15.1, P15.2
	for _, many := range []int{1, 2, 3, 63, maxObjects} {
		for i := range many {
			g, want := made(t, many), fresh(many)
			for _, from := range counted {
				add(t, g, i, from-want[i], from)
				want[i] = from
				holds(t, g, want)
			}
			add(t, g, i, -maxCount, 0)
			holds(t, g, fresh(many))
		}
	}
}

func TestFromEachCountToEach(t *testing.T) { // P15.1, P15.4
	for _, from := range counted {
		for _, to := range counted {
			g := of(t, 9, from, 8)
			add(t, g, 1, to-from, to)
			holds(t, g, model{9, to, 8})
			add(t, g, 1, from-to, from)
			holds(t, g, model{9, from, 8})
		}
	}
}

func TestTheEdgesOfACount(t *testing.T) { // P15.1, P15.4
	for _, from := range counted {
		g := of(t, 1, from, maxCount)
		want := model{1, from, maxCount}
		for _, past := range []int64{1, 2, 3, 1 << 31, 1 << 32, 1 << 40} {
			refuse(t, g, 1, -from-past, api.ErrCount)
			holds(t, g, want)
			refuse(t, g, 1, maxCount-from+past, api.ErrCount)
			holds(t, g, want)
		}
		for _, n := range far {
			refuse(t, g, 1, n, api.ErrCount)
			holds(t, g, want)
		}
		add(t, g, 1, 0, from)
		add(t, g, 1, maxCount-from, maxCount)
		add(t, g, 1, 0, maxCount)
		refuse(t, g, 1, 1, api.ErrCount)
		add(t, g, 1, -maxCount, 0)
		add(t, g, 1, 0, 0)
		refuse(t, g, 1, -1, api.ErrCount)
		holds(t, g, model{1, 0, maxCount})
	}
}

func TestNothingAddedIsRefusedWhereNothingIsThere(t *testing.T) { // P15.1
	g := of(t, 0, maxCount)
	add(t, g, 0, 0, 0)
	add(t, g, 1, 0, maxCount)
	refuse(t, g, 2, 0, api.ErrRange)
	holds(t, g, model{0, maxCount})
}

func TestACountGoesUpAndDownByOne(t *testing.T) { // P15.1, P15.4
	g := made(t, 2)
	const many = 1000
	for n := range int64(many) {
		add(t, g, 1, 1, n+1)
	}
	for n := range int64(many) {
		if g.Done(1) {
			t.Fatalf("done at %d", g.Count(1))
		}
		add(t, g, 1, -1, many-n-1)
	}
	refuse(t, g, 1, -1, api.ErrCount)
	holds(t, g, fresh(2))
}

func TestGroupsCountApart(t *testing.T) { // P15.1, P15.2
	g, want := made(t, maxObjects), fresh(maxObjects)
	for at := range maxObjects {
		i := at * 29 % maxObjects
		want[i] = int64(i) * 1000
		add(t, g, i, want[i], want[i])
		holds(t, g, want)
	}
	for at := range maxObjects {
		i := at * 45 % maxObjects
		add(t, g, i, -want[i], 0)
		want[i] = 0
		holds(t, g, want)
	}
}

// mixed is so many, done, at the bound, and between.
func mixed(many int) model {
	m := fresh(many)
	for i := range m {
		m[i] = []int64{0, maxCount, int64(i)}[i%3]
	}
	return m
}

func TestWhatIsNotThereIsRefused(t *testing.T) { // P15.1, P15.2
	for _, many := range []int{0, 1, 2, 3, maxObjects} {
		want := mixed(many)
		g := of(t, want...)
		for _, i := range beyond(many) {
			// That the group is not there goes ahead of what is added, whether it could be or not.
			for _, n := range slices.Concat([]int64{0, 1, -1}, counted, far) {
				refuse(t, g, i, n, api.ErrRange)
			}
		}
		holds(t, g, want)
	}
}

func TestNoneAtAll(t *testing.T) { // P15.1, P15.2, P15.3
	g := made(t, 0)
	refuse(t, g, 0, 0, api.ErrRange)
	other := g.Copy()
	if other == nil || !group.Same(g, other) {
		t.Fatalf("Copy: %v", other)
	}
	holds(t, g, fresh(0))
	holds(t, other, fresh(0))
}

func TestOfNone(t *testing.T) { // P15.1, P15.2, P15.3
	for name, g := range nones() {
		for _, i := range append([]int{0, 1}, beyond(0)...) {
			// That there are none goes ahead of all else.
			for _, n := range slices.Concat([]int64{0, 1, -1}, counted, far) {
				refuse(t, g, i, n, api.ErrNil)
			}
			if g.Count(i) != 0 || g.Done(i) {
				t.Errorf("%s: %d: %d, %t", name, i, g.Count(i), g.Done(i))
			}
		}
		if g.Len() != 0 || g.Copy() != nil {
			t.Errorf("%s: %d, %v", name, g.Len(), g.Copy())
		}
		s := g.Open()
		if s == nil {
			t.Fatalf("%s: Open is not there", name)
		}
		if got := append(all(s), all(s)...); len(got) != 0 {
			t.Errorf("%s: Open: %v", name, got)
		}
	}
}

func TestAWalkOfNoneTellsNothingLater(t *testing.T) { // P15.2
	var g group.Groups
	s := g.Open()
	g = *of(t, 1, 7)
	if got := all(s); len(got) != 0 {
		t.Errorf("%v", got)
	}
}

func TestRefusedOnesAreAsNil(t *testing.T) { // P15.1
	g, _ := group.New(maxObjects + 1)
	refuse(t, g, 0, 0, api.ErrNil)
	if !group.Same(g, nil) {
		t.Error("not as nil")
	}
}

func TestOpenIsRising(t *testing.T) { // P15.2
	for step := 1; step < maxObjects; step += 2 {
		g, want := made(t, maxObjects), fresh(maxObjects)
		for at := range maxObjects {
			i := (at*step + 17) % maxObjects
			if i%4 != 0 {
				want[i] = maxCount - int64(at)
				add(t, g, i, want[i], want[i])
			}
		}
		if got := all(g.Open()); !slices.Equal(got, want.list()) {
			t.Fatalf("%v, not %v", got, want.list())
		}
	}
}

func TestOpenIsNotWhatIsDone(t *testing.T) { // P15.2
	g := of(t, 3, 2, 1)
	add(t, g, 0, -3, 0)
	add(t, g, 1, -1, 1)
	add(t, g, 2, -1, 0)
	if got, want := all(g.Open()), []open{{1, 1}}; !slices.Equal(got, want) {
		t.Errorf("%v, not %v", got, want)
	}
}

// some are groups of which some are not done, both edges among them, as a model has them.
func some(t *testing.T) (*group.Groups, model) {
	t.Helper()
	m := fresh(maxObjects)
	m[0], m[1], m[5], m[31], m[62], m[63] = maxCount, 1, 70000, 2, maxCount-1, 3
	return of(t, m...), m
}

// turn has those done that are not, and those not that are.
func turn(t *testing.T, g *group.Groups) {
	t.Helper()
	for i := range g.Len() {
		if n := g.Count(i); n != 0 {
			add(t, g, i, -n, 0)
		} else {
			add(t, g, i, 8, 8)
		}
	}
}

func TestOpenIsLeftAndGoneOverAgain(t *testing.T) { // P15.2
	g, m := some(t)
	s, want := g.Open(), m.list()
	for stop := range len(want) + 1 {
		if got := begin(stop, s); !slices.Equal(got, want[:stop]) {
			t.Errorf("left behind %d: %v", stop, got)
		}
		if got := all(s); !slices.Equal(got, want) {
			t.Errorf("behind one that was left behind %d: %v", stop, got)
		}
	}
	many := 0
	for range s {
		many += len(all(s))
	}
	if many != len(want)*len(want) {
		t.Errorf("one in another: %d", many)
	}
}

func TestOpenGoesNoFurtherOnceItIsLeft(t *testing.T) { // P15.2
	g, m := some(t)
	for stop := 1; stop <= len(m.list()); stop++ {
		told := 0
		g.Open()(func(int, int64) bool {
			told++
			return told < stop
		})
		if told != stop {
			t.Errorf("left behind %d, and %d were told", stop, told)
		}
	}
}

func TestOpenGoesOverWhatWas(t *testing.T) { // P15.2
	g, m := some(t)
	s, want := g.Open(), m.list()
	for range 3 {
		turn(t, g)
		if got := all(s); !slices.Equal(got, want) {
			t.Errorf("others are done ahead of the walk: %v", got)
		}
	}
	g, _ = some(t)
	var got []open
	for i, count := range g.Open() {
		got = append(got, open{i, count})
		turn(t, g)
	}
	if !slices.Equal(got, want) {
		t.Errorf("others are done while it is under way: %v", got)
	}
	g, m = some(t)
	s = g.Open()
	add(t, g, 5, 1, 70001)
	if got = all(s); !slices.Equal(got, want) {
		t.Errorf("one counts on ahead of the walk: %v", got)
	}
	m[5]++
	holds(t, g, m)
	g = made(t, 2)
	s = g.Open()
	add(t, g, 1, 7, 7)
	if got = all(s); len(got) != 0 {
		t.Errorf("of those that were done: %v", got)
	}
}

func TestLookingChangesNothing(t *testing.T) { // P15.2, P15.3
	g, want := some(t)
	for range 3 {
		holds(t, g, want)
		begin(2, g.Open())
		g.Copy()
		group.Same(g, made(t, maxObjects))
	}
	holds(t, g, want)
}

func TestCopy(t *testing.T) { // P15.3
	was := model{3, 0, maxCount, 1}
	g := of(t, was...)
	other := g.Copy()
	if other == g || !group.Same(g, other) {
		t.Error("a copy is not another one with the same")
	}
	holds(t, other, was)
	add(t, g, 0, -3, 0)
	add(t, g, 1, 5, 5)
	now := model{0, 5, maxCount, 1}
	holds(t, g, now)
	holds(t, other, was)
	add(t, other, 2, -maxCount, 0)
	add(t, other, 3, 6, 7)
	holds(t, g, now)
	holds(t, other, model{3, 0, 0, 7})
	third := other.Copy()
	add(t, third, 0, 1, 4)
	refuse(t, third, 2, -1, api.ErrCount)
	holds(t, third, model{4, 0, 0, 7})
	holds(t, other, model{3, 0, 0, 7})
}

func TestCopyOfFreshOnes(t *testing.T) { // P15.3
	for many := range maxObjects + 1 {
		g := made(t, many)
		other := g.Copy()
		if other == nil || other == g || !group.Same(g, other) {
			t.Fatalf("%d: %v", many, other)
		}
		holds(t, other, fresh(many))
		for i := range many {
			add(t, other, i, 3, 3)
		}
		holds(t, g, fresh(many))
	}
}

func TestSame(t *testing.T) { // P15.3
	made := []func() *group.Groups{
		func() *group.Groups { return nil },
		func() *group.Groups { return made(t, 0) },
		func() *group.Groups { return made(t, 1) },
		func() *group.Groups { return made(t, 2) },
		func() *group.Groups { return made(t, maxObjects-1) },
		func() *group.Groups { return made(t, maxObjects) },
		func() *group.Groups { return of(t, 1) },
		func() *group.Groups { return of(t, 2) },
		func() *group.Groups { return of(t, 1<<16+1) },
		func() *group.Groups { return of(t, maxCount) },
		func() *group.Groups { return of(t, 1, 0) },
		func() *group.Groups { return of(t, 0, 1) },
		func() *group.Groups { return of(t, 1, 1) },
		func() *group.Groups { return of(t, 1, 2) },
		func() *group.Groups { return of(t, 2, 1) },
		func() *group.Groups { return of(t, 0, 1, 0) },
		func() *group.Groups { return of(t, 0, maxCount, maxCount-1) },
		func() *group.Groups { return of(t, append(fresh(maxObjects-1), 1)...) },
		func() *group.Groups { return of(t, append(model{1}, fresh(maxObjects-1)...)...) },
	}
	for i, a := range made {
		for j, b := range made {
			if got := group.Same(a(), b()); got != (i == j) {
				t.Errorf("%d, %d: %t", i, j, got)
			}
		}
		if one := a(); !group.Same(one, one) {
			t.Errorf("%d is not as itself", i)
		}
	}
}

func TestSameOfNone(t *testing.T) { // P15.3
	for name, none := range nones() {
		for other, also := range nones() {
			if !group.Same(none, also) {
				t.Errorf("%s, %s: not the same", name, other)
			}
		}
		for _, is := range []*group.Groups{made(t, 0), made(t, 1), of(t, 1, 7)} {
			if group.Same(none, is) || group.Same(is, none) {
				t.Errorf("%s: the same as some that are there", name)
			}
		}
	}
}

func TestHowItCameMakesNoDifference(t *testing.T) { // P15.3, P15.4
	a, b := of(t, 5, 0, maxCount), made(t, 3)
	add(t, b, 2, maxCount-1, maxCount-1)
	add(t, b, 1, maxCount, maxCount)
	refuse(t, b, 2, 2, api.ErrCount)
	add(t, b, 2, 1, maxCount)
	add(t, b, 0, 9, 9)
	refuse(t, b, 0, -10, api.ErrCount)
	add(t, b, 0, -4, 5)
	add(t, b, 1, -maxCount, 0)
	refuse(t, b, 3, 1, api.ErrRange)
	if !group.Same(a, b) || !group.Same(b, a) {
		t.Error("not the same, though each one counts the same")
	}
	for i := range b.Len() {
		add(t, b, i, -b.Count(i), 0)
	}
	if !group.Same(b, made(t, 3)) {
		t.Error("not as fresh ones, though all are done")
	}
}

// drawn is a number that is drawn for a group with such a count: small, at an edge of it, far off, or any.
func drawn(r *rand.Rand, count int64) int64 {
	switch r.IntN(5) {
	case 0:
		return r.Int64N(7) - 3
	case 1:
		return r.Int64N(5) - 2 - count
	case 2:
		return maxCount - count + r.Int64N(5) - 2
	case 3:
		return far[r.IntN(len(far))]
	}
	return r.Int64N(4*maxCount) - 2*maxCount
}

func TestDrawnRuns(t *testing.T) { // P15.1, P15.2, P15.3, P15.4
	r := rand.New(rand.NewPCG(15, 15))
	for range 100 {
		many := r.IntN(5)
		g, want, sums := made(t, many), fresh(many), make([]big.Int, many)
		for range 300 {
			kept, was := g.Copy(), slices.Clone(want)
			i := r.IntN(many+2) - 1
			n := drawn(r, g.Count(i))
			got, e := g.Add(i, n)
			if should, wanted := want.add(i, n); got != should || e != wanted {
				t.Fatalf("Add(%d, %d) of %v: %d, %v, not %d, %v", i, n, was, got, e, should, wanted)
			}
			holds(t, g, want)
			holds(t, kept, was)
			if group.Same(g, kept) != slices.Equal(want, was) {
				t.Fatalf("Same of %v and %v", want, was)
			}
			if e != api.OK {
				continue
			}
			sums[i].Add(&sums[i], big.NewInt(n))
			if sums[i].Cmp(big.NewInt(g.Count(i))) != 0 {
				t.Fatalf("%d counts %d, and %s was added", i, g.Count(i), &sums[i])
			}
		}
	}
}
