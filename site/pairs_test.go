package site_test

import (
	"cmp"
	"iter"
	"maps"
	"slices"
	"testing"

	"linesman/api"
	"linesman/site"
)

// pair is one of two places.
func pair(af, apc, bf, bpc int) api.Pair {
	return api.Pair{A: at(af, apc), B: at(bf, bpc)}
}

// place is a number for each site: the order of sites is that of these.
func place(s api.Site) int {
	return s.Func*codes + s.Pc
}

// said is the order of pairs, as the chapter says it.
func said(x, y api.Pair) int {
	return cmp.Or(cmp.Compare(place(x.A), place(y.A)), cmp.Compare(place(x.B), place(y.B)))
}

// rising are the same pairs, each once, in order.
func rising(l []api.Pair) []api.Pair {
	l = slices.Clone(l)
	slices.SortFunc(l, said)
	return slices.Compact(l)
}

// some are pairs of sites at edges, none twice, in no order that is seen.
func some() []api.Pair {
	l := []api.Site{at(0, 0), at(0, 1), at(0, 511), at(1, 0), at(1, 255), at(1, 256), at(2, 0), at(10, 3), at(31, 0), at(31, 511)}
	all := map[api.Pair]int{}
	for i, a := range l {
		for _, b := range l[i:] {
			all[api.Pair{A: a, B: b}] = 0
		}
	}
	out := slices.Collect(maps.Keys(all))
	slices.SortFunc(out, func(x, y api.Pair) int {
		mix := func(p api.Pair) int { return (place(p.A)*7919 + place(p.B)*104729) % 1009 }
		return cmp.Or(cmp.Compare(mix(x), mix(y)), said(y, x))
	})
	return out
}

// noPairs are such as may not be: A is behind B, or one of them, or each, is no site.
func noPairs() []api.Pair {
	l := []api.Pair{pair(0, 1, 0, 0), pair(1, 0, 0, 511), pair(2, 0, 1, 5), pair(31, 511, 0, 0), pair(31, 511, 31, 510), pair(1, 0, 0, 0)}
	for _, s := range noSites() {
		for _, other := range []api.Site{at(0, 0), at(1, 5), at(31, 511), s} {
			l = append(l, api.Pair{A: s, B: other}, api.Pair{A: other, B: s})
		}
	}
	return l
}

// nones are pairs that are none.
func nones() map[string]*site.Pairs {
	return map[string]*site.Pairs{"nil": nil, "zero": {}}
}

// told is what a walk told once.
type told struct {
	at int
	x  api.Pair
}

// first are the first few of what a walk tells.
func first(many int, s iter.Seq2[int, api.Pair]) []told {
	var l []told
	if many == 0 {
		return l
	}
	for at, x := range s {
		l = append(l, told{at, x})
		if len(l) == many {
			break
		}
	}
	return l
}

// numbered are pairs, each with its number.
func numbered(l []api.Pair) []told {
	var out []told
	for i, x := range l {
		out = append(out, told{i, x})
	}
	return out
}

// of is a set of these.
func of(t *testing.T, l ...api.Pair) *site.Pairs {
	t.Helper()
	p, why := site.New(l...)
	if p == nil || why != api.OK {
		t.Fatalf("New(%v): %v", l, why)
	}
	return p
}

// add puts one in where nothing may be refused.
func add(t *testing.T, p *site.Pairs, x api.Pair, want bool) {
	t.Helper()
	if got, why := p.Add(x); got != want || why != api.OK {
		t.Errorf("Add(%v) = %v, %v", x, got, why)
	}
}

// tells sees to it that all that a set tells is that it has these, and no others.
func tells(t *testing.T, p *site.Pairs, l ...api.Pair) {
	t.Helper()
	want := rising(l)
	if p.Len() != len(want) {
		t.Errorf("Len = %d, not %d", p.Len(), len(want))
	}
	if got := first(-1, p.All()); !slices.Equal(got, numbered(want)) {
		t.Errorf("All: %v, not %v", got, want)
	}
	for _, x := range append(some(), l...) {
		if got := p.Has(x); got != slices.Contains(want, x) {
			t.Errorf("Has(%v) = %v", x, got)
		}
	}
}

func TestNew(t *testing.T) { // P7.3
	tells(t, of(t))
	tells(t, of(t, nil...))
	tells(t, of(t, []api.Pair{}...))
	for _, x := range some() {
		tells(t, of(t, x), x)
		tells(t, of(t, x, x), x)
	}
	tells(t, of(t, some()...), some()...)
	tells(t, of(t, append(some(), some()...)...), some()...)
	tells(t, of(t, pair(1, 5, 2, 0), pair(0, 0, 0, 0), pair(1, 5, 2, 0)), pair(0, 0, 0, 0), pair(1, 5, 2, 0))
	tells(t, of(t, pair(31, 511, 31, 511), pair(0, 0, 31, 511)), pair(31, 511, 31, 511), pair(0, 0, 31, 511))
}

func TestNewRefuses(t *testing.T) { // P7.3
	refuses := func(l ...api.Pair) {
		if p, why := site.New(l...); p != nil || why != api.ErrArg {
			t.Errorf("New(%v) = %v, %v", l, p, why)
		}
	}
	good, other := pair(1, 5, 2, 0), pair(3, 3, 3, 3)
	for _, x := range noPairs() {
		refuses(x)
		refuses(x, good)
		refuses(good, x)
		refuses(good, x, other)
		refuses(good, other, x)
		refuses(x, x)
	}
}

func TestAdd(t *testing.T) { // P7.3
	p := of(t)
	var l []api.Pair
	for _, x := range some() {
		add(t, p, x, true)
		l = append(l, x)
		tells(t, p, l...)
		add(t, p, x, false)
		add(t, p, l[0], false)
		tells(t, p, l...)
	}
}

func TestAddToThoseOfNew(t *testing.T) { // P7.3
	p := of(t, pair(1, 5, 2, 0), pair(1, 5, 1, 5))
	add(t, p, pair(1, 5, 1, 5), false)
	add(t, p, pair(1, 5, 2, 0), false)
	add(t, p, pair(1, 5, 2, 1), true)
	add(t, p, pair(1, 4, 2, 0), true)
	tells(t, p, pair(1, 5, 2, 0), pair(1, 5, 1, 5), pair(1, 5, 2, 1), pair(1, 4, 2, 0))
}

func TestAddRefuses(t *testing.T) { // P7.3
	p := of(t, pair(1, 5, 2, 0))
	for _, x := range noPairs() {
		if got, why := p.Add(x); got || why != api.ErrArg {
			t.Errorf("Add(%v) = %v, %v", x, got, why)
		}
		if p.Has(x) || p.Len() != 1 {
			t.Errorf("%v was refused, and is one of %d", x, p.Len())
		}
	}
	tells(t, p, pair(1, 5, 2, 0))
}

func TestHas(t *testing.T) { // P7.3
	p := of(t, pair(1, 5, 2, 0), pair(1, 5, 3, 0))
	for x, want := range map[api.Pair]int{
		pair(1, 5, 2, 0): 1,
		pair(1, 5, 3, 0): 1,
		pair(2, 0, 1, 5): 0, // told the other way round it is no pair
		pair(3, 0, 1, 5): 0,
		pair(1, 5, 1, 5): 0,
		pair(2, 0, 2, 0): 0,
		pair(2, 0, 3, 0): 0,
		pair(1, 5, 2, 1): 0,
		pair(1, 5, 4, 0): 0,
		pair(1, 6, 2, 0): 0,
		pair(0, 5, 2, 0): 0,
		{}:               0,
	} {
		if got := p.Has(x); got != (want == 1) {
			t.Errorf("Has(%v) = %v", x, got)
		}
	}
	for _, x := range noPairs() {
		if p.Has(x) {
			t.Errorf("Has(%v)", x)
		}
	}
	tells(t, p, pair(1, 5, 2, 0), pair(1, 5, 3, 0))
}

func TestAllIsRising(t *testing.T) { // P7.3
	p := of(t, pair(10, 0, 10, 1), pair(2, 0, 2, 0), pair(1, 256, 1, 256), pair(1, 255, 31, 511), pair(1, 255, 2, 0), pair(1, 255, 1, 300), pair(0, 511, 31, 0), pair(9, 0, 31, 0))
	want := []told{
		{0, pair(0, 511, 31, 0)},
		{1, pair(1, 255, 1, 300)},
		{2, pair(1, 255, 2, 0)},
		{3, pair(1, 255, 31, 511)},
		{4, pair(1, 256, 1, 256)},
		{5, pair(2, 0, 2, 0)},
		{6, pair(9, 0, 31, 0)},
		{7, pair(10, 0, 10, 1)},
	}
	if got := first(-1, p.All()); !slices.Equal(got, want) {
		t.Errorf("All: %v", got)
	}
}

func TestAWalkIsLeft(t *testing.T) { // P7.3
	want := numbered(rising(some()))
	p := of(t, some()...)
	walk := p.All()
	for many := range len(want) + 1 {
		if got := first(many, walk); !slices.Equal(got, want[:many]) {
			t.Errorf("the first %d: %v", many, got)
		}
		if got := first(-1, walk); !slices.Equal(got, want) {
			t.Errorf("gone over again, behind %d: %v", many, got)
		}
	}
	for at, x := range walk {
		if got := first(at+1, walk); !slices.Equal(got, want[:at+1]) || got[at].x != x {
			t.Errorf("within itself, at %d: %v", at, got)
		}
	}
	tells(t, p, some()...)
}

func TestAWalkThatIsLeftTellsNoMore(t *testing.T) { // P7.3
	for many := range 4 {
		calls := 0
		of(t, some()...).All()(func(int, api.Pair) bool {
			calls++
			return calls <= many
		})
		if calls != many+1 {
			t.Errorf("left at %d, it told %d", many+1, calls)
		}
	}
}

func TestAWalkGoesOverThemAsTheyWere(t *testing.T) { // P7.3
	l := some()
	p := of(t, l[:20]...)
	before, empty := p.All(), of(t).All()
	want := numbered(rising(l[:20]))
	i := 20
	var got []told
	for at, x := range before {
		got = append(got, told{at, x})
		add(t, p, l[i], true)
		i++
	}
	if !slices.Equal(got, want) || i != 40 {
		t.Errorf("while pairs are added: %v", got)
	}
	if got := first(-1, before); !slices.Equal(got, want) {
		t.Errorf("once more: %v", got)
	}
	if got := first(-1, empty); got != nil {
		t.Errorf("of none: %v", got)
	}
	tells(t, p, l[:40]...)
	of0 := of(t)
	none := of0.All()
	add(t, of0, l[0], true)
	if got := first(-1, none); got != nil {
		t.Errorf("of none, then of one: %v", got)
	}
}

func TestSetsAreApart(t *testing.T) { // P7.3
	a, b := of(t), of(t, pair(0, 0, 1, 1))
	add(t, a, pair(2, 2, 3, 3), true)
	tells(t, a, pair(2, 2, 3, 3))
	tells(t, b, pair(0, 0, 1, 1))
	tells(t, of(t))
}

func TestNewKeepsAndChangesNothingOfItsList(t *testing.T) { // P7.3
	room := append(some(), pair(5, 5, 5, 5), pair(6, 6, 6, 6))
	l := room[:len(room)-2]
	before := slices.Clone(room)
	p := of(t, l...)
	tells(t, p, some()...)
	add(t, p, pair(4, 4, 4, 4), true)
	if !slices.Equal(room, before) {
		t.Errorf("New changed its list: %v", room)
	}
	clear(room)
	tells(t, p, append(some(), pair(4, 4, 4, 4))...)
}

func TestNoPairs(t *testing.T) { // P7.3
	for name, p := range nones() {
		for _, x := range []api.Pair{pair(1, 5, 2, 0), {}, pair(2, 0, 1, 5), pair(-1, 0, 0, 0), pair(0, 0, 0, 512)} {
			if got, why := p.Add(x); got || why != api.ErrNil {
				t.Errorf("%s: Add(%v) = %v, %v", name, x, got, why)
			}
			if p.Has(x) {
				t.Errorf("%s: Has(%v)", name, x)
			}
		}
		if p.Len() != 0 {
			t.Errorf("%s: Len = %d", name, p.Len())
		}
		walk := p.All()
		if walk == nil {
			t.Fatalf("%s: All is not there", name)
		}
		if got := append(first(-1, walk), first(-1, walk)...); got != nil {
			t.Errorf("%s: All: %v", name, got)
		}
	}
}

func TestHowManyPairsThereAre(t *testing.T) { // P7.4
	l := edges()
	p := of(t)
	for many, b := range l {
		for _, a := range l[:many+1] {
			x, _ := site.Of(a, b)
			y, why := site.Of(b, a)
			if x != y || why != api.OK {
				t.Errorf("Of(%v, %v) = %v, the other way round %v", a, b, x, y)
			}
			add(t, p, x, true)
			add(t, p, y, false)
		}
		if want := (many + 1) * (many + 2) / 2; p.Len() != want {
			t.Errorf("of %d sites: Len = %d, not %d", many+1, p.Len(), want)
		}
	}
}
