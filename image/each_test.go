package image_test

import (
	"bytes"
	"iter"
	"slices"
	"testing"

	"linesman/api"
	"linesman/image"
	"linesman/program"
)

// told is what a walk told once.
type told struct {
	at int
	p  api.Program
}

// first are the first few of what a walk tells; all, if there are none so many.
func first(many int, s iter.Seq2[int, api.Program]) []told {
	var l []told
	if many == 0 {
		return l
	}
	for at, p := range s {
		l = append(l, told{at, p})
		if len(l) == many {
			break
		}
	}
	return l
}

func same(a, b []told) bool {
	return slices.EqualFunc(a, b, func(x, y told) bool { return x.at == y.at && program.Same(x.p, y.p) })
}

// row are the images of some, one behind the other, and where each begins.
func row(l ...api.Program) ([]byte, []told) {
	var b []byte
	var where []told
	for _, p := range l {
		where = append(where, told{len(b), p})
		b = append(b, whole(p)...)
	}
	return b, where
}

func TestEach(t *testing.T) { // P10.3
	for _, l := range [][]api.Program{nil, {tiny()}, {small()}, {tiny(), tiny(), tiny()}, many()} {
		b, want := row(l...)
		if got := first(-1, image.Each(b)); !same(got, want) {
			t.Errorf("Each(%.60x): %.300v", b, got)
		}
	}
	for _, b := range [][]byte{nil, {}, {0}, []byte("line"), []byte("Line"), unsummed(tiny())} {
		walk := image.Each(b)
		if walk == nil || first(-1, walk) != nil {
			t.Errorf("Each(%x)", b)
		}
	}
}

func TestEachEndsAtWhatIsNone(t *testing.T) { // P10.3
	b, want := row(tiny(), small())
	turned := whole(tiny())
	turned[len(turned)-1] ^= 128
	nones := [][]byte{{0}, []byte("l"), []byte("line"), []byte("Line"), turned, unsummed(small()), append(unsummed(tiny()), make([]byte, 8)...)}
	for _, p := range wrong() {
		nones = append(nones, whole(p))
	}
	for _, none := range nones {
		// An image behind what is none is not gone over.
		if got := first(-1, image.Each(slices.Concat(b, none, whole(tiny())))); !same(got, want) {
			t.Errorf("Each, with %.60x at its end: %.300v", none, got)
		}
		if got := first(-1, image.Each(slices.Concat(none, b))); got != nil {
			t.Errorf("Each(%.60x..): %.300v", none, got)
		}
	}
	for many := range b {
		var there []told
		for _, w := range want {
			if w.at+len(whole(w.p)) <= many {
				there = append(there, w)
			}
		}
		if got := first(-1, image.Each(b[:many])); !same(got, there) {
			t.Errorf("Each of %d bytes: %.300v", many, got)
		}
	}
}

func TestAWalkIsLeft(t *testing.T) { // P10.3
	b, want := row(tiny(), small(), long(3), tiny())
	walk := image.Each(b)
	for many := range len(want) + 1 {
		if got := first(many, walk); !same(got, want[:many]) {
			t.Errorf("the first %d: %v", many, got)
		}
		if got := first(-1, walk); !same(got, want) {
			t.Errorf("gone over again, behind %d: %v", many, got)
		}
	}
	for many := range 4 {
		calls := 0
		image.Each(b)(func(int, api.Program) bool {
			calls++
			return calls <= many
		})
		if calls != many+1 {
			t.Errorf("left at %d, it told %d", many+1, calls)
		}
	}
	at := 0
	for where, p := range walk {
		if got := first(at+1, walk); !same(got[at:], []told{{where, p}}) {
			t.Errorf("within itself, at %d: %v", at, got)
		}
		at++
	}
}

func TestAWalkGoesOverTheBytesAsTheyWere(t *testing.T) { // P10.3
	b, want := row(tiny(), small(), tiny())
	walk := image.Each(b[:len(b):len(b)])
	clear(b)
	for range 2 {
		got := first(-1, walk)
		if !same(got, want) {
			t.Fatalf("%v", got)
		}
		// What was told is new memory.
		for _, w := range got {
			spoil(w.p)
		}
	}
}

func TestAPanicOfWhoWalksGoesOn(t *testing.T) { // P10.3
	b, _ := row(tiny(), small())
	defer func() {
		if up := recover(); up != "mine" {
			t.Errorf("%v", up)
		}
	}()
	for range image.Each(bytes.Clone(b)) {
		panic("mine")
	}
}
