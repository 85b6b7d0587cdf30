package event_test

import (
	"math"
	"testing"

	"linesman/api"
	"linesman/event"
)

// pairs goes over two events each, of all Kinds, and of what is none, that are alike in some of their numbers.
func pairs(with func(a, b api.Event)) {
	kinds := []api.EvKind{math.MinInt, -1, 0, 15, 16, 256 + 6, 1<<32 + 5, math.MaxInt}
	for _, f := range forms {
		kinds = append(kinds, f.kind)
	}
	var l []api.Event
	for _, kind := range kinds {
		for _, g := range []int{0, 1, 2} {
			for _, child := range []int{0, 1, 2} {
				for _, obj := range []int{0, 1} {
					for _, n := range []int64{-1, 0, 1} {
						l = append(l, api.Event{G: g, Kind: kind, Child: child, Obj: obj, N: n, Addr: uint32(obj)})
					}
				}
			}
		}
	}
	for _, a := range l {
		for _, b := range l {
			with(a, b)
		}
	}
}

func TestReleases(t *testing.T) { // P16.3
	want := map[api.EvKind]bool{api.EvGo: true, api.EvUnlock: true, api.EvRUnlock: true, api.EvWUnlock: true, api.EvCount: true}
	for _, e := range few() {
		if got := event.Releases(e); got != want[e.Kind] {
			t.Errorf("Releases(%v) = %v", e, got)
		}
	}
	for n, want := range map[int64]bool{math.MinInt64: true, math.MinInt32 - 1: true, math.MinInt32: true, -2: true, -1: true, 0: false, 1: false, math.MaxInt32: false, 1<<32 - 1: false, math.MaxInt64: false} {
		e := api.Event{Kind: api.EvCount, Obj: 1, N: n}
		if got := event.Releases(e); got != want {
			t.Errorf("Releases(%v) = %v", e, got)
		}
		// What is no EvCount counts nothing.
		e.Kind = api.EvWait
		if event.Releases(e) {
			t.Errorf("Releases(%v)", e)
		}
	}
	for _, e := range grid() {
		if got := event.Releases(e); got != releases(e) {
			t.Errorf("Releases(%v) = %v", e, got)
		}
	}
}

func TestConflict(t *testing.T) { // P16.3, P16.4
	load, store := api.Event{G: 1, Kind: api.EvLoad, Addr: 7}, api.Event{G: 2, Kind: api.EvStore, Addr: 7}
	if event.Conflict(load, load) || !event.Conflict(load, store) || !event.Conflict(store, load) || !event.Conflict(store, store) {
		t.Error("at one address")
	}
	for _, addr := range []uint32{0, 6, 8, 7 + 4096, 7 + 1<<16, 7 + 1<<31, math.MaxUint32} {
		other := api.Event{G: 1, Kind: api.EvStore, Addr: addr}
		if event.Conflict(other, store) || event.Conflict(store, other) || event.Conflict(load, other) || event.Conflict(other, load) {
			t.Errorf("at 7 and at %d", addr)
		}
	}
	// Whose they are, and where, is not asked.
	same := store
	same.G, same.Site = load.G, api.Site{Func: 3, Pc: 4}
	if !event.Conflict(load, same) || !event.Conflict(same, load) {
		t.Error("of one goroutine")
	}
	pairs(func(a, b api.Event) {
		if got := event.Conflict(a, b); got != conflict(a, b) || got != event.Conflict(b, a) {
			t.Fatalf("Conflict(%v, %v) = %v", a, b, got)
		}
	})
}

func TestLeads(t *testing.T) { // P16.3
	pairs(func(a, b api.Event) {
		if got := event.Leads(a, b); got != leads(a, b) {
			t.Fatalf("Leads(%v, %v) = %v", a, b, got)
		}
	})
}

func TestLeadsOfEachPairOfKinds(t *testing.T) { // P16.3
	type pair struct{ a, b api.EvKind }
	leading := map[pair]bool{
		{api.EvUnlock, api.EvLock}: true, {api.EvWUnlock, api.EvRLock}: true, {api.EvWUnlock, api.EvWLock}: true, {api.EvRUnlock, api.EvWLock}: true, {api.EvCount, api.EvWait}: true,
	}
	for _, one := range forms {
		for _, other := range forms {
			a, b := api.Event{G: 1, Kind: one.kind, Obj: 5, N: -1}, api.Event{G: 2, Kind: other.kind, Obj: 5, N: -1}
			if got := event.Leads(a, b); got != leading[pair{a.Kind, b.Kind}] {
				t.Errorf("Leads(%v, %v) = %v", a, b, got)
			}
			b.Obj = 6
			if event.Leads(a, b) {
				t.Errorf("Leads(%v, %v)", a, b)
			}
			b.G = 1
			if !event.Leads(a, b) || !event.Leads(b, a) {
				t.Errorf("Leads(%v, %v), of one goroutine", a, b)
			}
		}
	}
}

func TestLeadsToWhoBegins(t *testing.T) { // P16.3
	begins := api.Event{G: 1, Kind: api.EvGo, Child: 2}
	for _, e := range few() {
		for g, want := range map[int]bool{0: false, 1: true, 2: true, 3: false} {
			e.G = g
			if got := event.Leads(begins, e); got != want {
				t.Errorf("Leads(%v, %v) = %v", begins, e, got)
			}
		}
		// What is no EvGo begins none, whatever it says of a Child.
		other := api.Event{G: 7, Kind: e.Kind, Child: 2, Obj: 99}
		if got := event.Leads(other, api.Event{G: 2, Kind: api.EvStep}); got != (e.Kind == api.EvGo) {
			t.Errorf("Leads(%v, a step of 2) = %v", other, got)
		}
	}
}

func TestLeadsOfCounts(t *testing.T) { // P16.3
	for _, n := range []int64{math.MinInt64, math.MinInt32, -1, 0, 1, math.MaxInt32, math.MaxInt64} {
		a, b := api.Event{G: 1, Kind: api.EvCount, Obj: 3, N: n}, api.Event{G: 2, Kind: api.EvWait, Obj: 3}
		if got := event.Leads(a, b); got != (n < 0) {
			t.Errorf("Leads(%v, %v) = %v", a, b, got)
		}
		if event.Leads(b, a) {
			t.Errorf("Leads(%v, %v)", b, a)
		}
	}
}

func TestLeadsOfAnyEvents(t *testing.T) { // P16.3, P16.4
	for _, a := range grid() {
		if !event.Leads(a, a) {
			t.Errorf("%v does not lead to itself", a)
		}
		for _, b := range []api.Event{{}, {G: -1, Kind: -1, Obj: -1}, {G: math.MaxInt, Kind: api.EvWait, Obj: math.MaxInt}, {G: 65536, Kind: api.EvLock, Obj: 64}, {G: math.MinInt, Kind: api.EvWLock, Obj: math.MinInt}} {
			if got := event.Leads(a, b); got != leads(a, b) {
				t.Errorf("Leads(%v, %v) = %v", a, b, got)
			}
			if got := event.Leads(b, a); got != leads(b, a) {
				t.Errorf("Leads(%v, %v) = %v", b, a, got)
			}
			if got := event.Conflict(a, b); got != conflict(a, b) || got != event.Conflict(b, a) {
				t.Errorf("Conflict(%v, %v) = %v", a, b, got)
			}
		}
	}
}

func TestWhatDoesNotReleaseLeadsToNoOthers(t *testing.T) { // P16.4
	some := 0
	pairs(func(a, b api.Event) {
		if a.G == b.G || !event.Leads(a, b) {
			return
		}
		some++
		if !event.Releases(a) {
			t.Fatalf("%v leads to %v", a, b)
		}
	})
	if some == 0 {
		t.Error("none leads to another goroutine's")
	}
}
