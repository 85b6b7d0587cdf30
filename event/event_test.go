package event_test

import (
	"bytes"
	"iter"
	"math"
	"slices"
	"testing"

	"linesman/api"
	"linesman/event"
)

func TestCheck(t *testing.T) { // P16.1
	for _, e := range grid() {
		want := api.ErrArg
		if may(e) {
			want = api.OK
		}
		if got := event.Check(e); got != want {
			t.Errorf("Check(%v): %v", e, got)
		}
	}
	if l := some(); len(l) < 1000 {
		t.Errorf("just %d that may be", len(l))
	}
	for _, e := range few() {
		if got := event.Check(e); got != api.OK {
			t.Errorf("Check(%v): %v", e, got)
		}
	}
}

func TestCheckAtTheEdges(t *testing.T) { // P16.1
	top := api.Site{Func: 31, Pc: 511}
	for _, e := range []api.Event{
		{Kind: api.EvStep},
		{G: 65535, Kind: api.EvEnd, Site: top},
		{Kind: api.EvLoad, Addr: math.MaxUint32},
		{Kind: api.EvStore, Addr: 0},
		{G: 2, Kind: api.EvGo, Child: 1},
		{G: 0, Kind: api.EvGo, Child: 65535},
		{G: 65535, Kind: api.EvGo, Child: 65534},
		{Kind: api.EvLock, Obj: 63},
		{Kind: api.EvWait, Obj: 0},
		{Kind: api.EvCount, Obj: 63, N: -1 << 31},
		{Kind: api.EvCount, N: 1<<31 - 1},
		{Kind: api.EvCount, N: 0},
		{Kind: api.EvTrap, Trap: api.TrapUnlock},
		{Kind: api.EvTrap, Trap: api.TrapStack},
	} {
		if got := event.Check(e); got != api.OK {
			t.Errorf("Check(%v): %v", e, got)
		}
	}
	for _, e := range []api.Event{
		{},
		{Kind: api.EvTrap + 1, Trap: 1},
		{G: -1, Kind: api.EvStep},
		{G: 65536, Kind: api.EvStep},
		{Kind: api.EvStep, Site: api.Site{Func: 32}},
		{Kind: api.EvStep, Site: api.Site{Pc: 512}},
		{Kind: api.EvStep, Site: api.Site{Func: -1}},
		{G: 1, Kind: api.EvGo, Child: 1},
		{G: 1, Kind: api.EvGo, Child: 0},
		{G: 0, Kind: api.EvGo, Child: 65536},
		{G: 0, Kind: api.EvGo},
		{Kind: api.EvLock, Obj: -1},
		{Kind: api.EvWUnlock, Obj: 64},
		{Kind: api.EvCount, N: -1<<31 - 1},
		{Kind: api.EvCount, N: 1 << 31},
		{Kind: api.EvTrap},
		{Kind: api.EvTrap, Trap: api.TrapStack + 1},
		{Kind: api.EvStep, Addr: 1},
		{Kind: api.EvLoad, Child: 1},
		{Kind: api.EvStore, Obj: 1},
		{Kind: api.EvWait, N: 1},
		{Kind: api.EvEnd, Trap: 1},
	} {
		if got := event.Check(e); got != api.ErrArg {
			t.Errorf("Check(%v): %v", e, got)
		}
	}
}

func TestCheckOfWhatIsNotNamed(t *testing.T) { // P16.1
	for _, e := range few() {
		f, _ := formOf(e.Kind)
		for part, put := range map[string]change{
			"Addr":  func(e *api.Event) { e.Addr = 1 },
			"Child": func(e *api.Event) { e.Child = 1 },
			"Obj":   func(e *api.Event) { e.Obj = 1 },
			"N":     func(e *api.Event) { e.N = 1 },
			"Trap":  func(e *api.Event) { e.Trap = 1 },
		} {
			other := e
			put(&other)
			if got := event.Check(other); (got == api.OK) != f.names(part) || got != api.OK && got != api.ErrArg {
				t.Errorf("Check(%v): %v", other, got)
			}
		}
	}
}

func TestTheChaptersExamples(t *testing.T) { // P16.1, P16.2, P16.3
	first := api.Event{G: 3, Kind: api.EvStore, Site: api.Site{Pc: 4}, Addr: 4096}
	for want, e := range map[string]api.Event{
		"3 f0:4 store 4096": first,
		"0 f1:2 count 5 -3": {Kind: api.EvCount, Site: api.Site{Func: 1, Pc: 2}, Obj: 5, N: -3},
		"0 f0:0 trap count": {Kind: api.EvTrap, Trap: 2},
	} {
		if got, why := event.Text(e); got != want || why != api.OK {
			t.Errorf("Text(%v) = %q, %v", e, got, why)
		}
	}
	if got, why := event.Bytes(first); string(got) != "\x03\x03\x00\x00\x04\x00\x00\x10\x00\x00" || why != api.OK {
		t.Errorf("Bytes = %x, %v", got, why)
	}
	for _, b := range [][]byte{{0x15}, {15}, {15, 0, 0, 0, 0, 0, 0, 0, 0, 0, 0, 0}} {
		if got, many, why := event.Read(b); got != (api.Event{}) || many != 0 || why != api.ErrEvent {
			t.Errorf("Read(%x) = %v, %d, %v", b, got, many, why)
		}
	}
	unlock, lock := api.Event{G: 0, Kind: api.EvUnlock, Obj: 1}, api.Event{G: 2, Kind: api.EvLock, Obj: 1}
	if !event.Leads(unlock, lock) || event.Leads(lock, unlock) {
		t.Error("Leads")
	}
}

func TestText(t *testing.T) { // P16.1
	for _, e := range some() {
		if got, why := event.Text(e); got != text(e) || why != api.OK {
			t.Errorf("Text(%v) = %q, %v", e, got, why)
		}
	}
	want := []string{
		"258 f31:257 step", "1 f2:3 load 4023216009", "3 f0:4 store 4096", "5 f6:511 go 772", "7 f8:9 lock 10", "11 f12:13 unlock 63", "14 f15:16 rlock 17",
		"18 f19:20 runlock 21", "22 f23:24 wlock 25", "26 f27:28 wunlock 29", "30 f0:256 count 32 -33", "34 f1:35 wait 36", "65535 f3:37 end", "0 f4:38 trap many",
	}
	for at, e := range few() {
		if got, why := event.Text(e); got != want[at] || why != api.OK {
			t.Errorf("Text(%v) = %q, %v", e, got, why)
		}
	}
}

func TestTextAndBytesRefuse(t *testing.T) { // P16.1, P16.2
	for _, e := range grid() {
		if may(e) {
			continue
		}
		if got, why := event.Text(e); got != "" || why != api.ErrArg {
			t.Errorf("Text(%v) = %q, %v", e, got, why)
		}
		if got, why := event.Bytes(e); got != nil || why != api.ErrArg {
			t.Errorf("Bytes(%v) = %x, %v", e, got, why)
		}
	}
}

func TestNoTextsAreTheSame(t *testing.T) { // P16.4
	of := map[string]api.Event{}
	for _, e := range some() {
		s, _ := event.Text(e)
		if other, is := of[s]; is {
			t.Errorf("%q is that of %v, and of %v", s, other, e)
		}
		of[s] = e
	}
}

// named is a trap, and its name.
type named struct {
	trap api.Trap
	name string
}

// allTraps are those of the chapter.
var allTraps = []named{
	{api.TrapUnlock, "unlock"}, {api.TrapCount, "count"}, {api.TrapIndex, "index"}, {api.TrapZero, "zero"}, {api.TrapMany, "many"}, {api.TrapStack, "stack"},
}

// firstTraps are the first few of what a walk tells.
func firstTraps(many int, s iter.Seq2[api.Trap, string]) []named {
	var l []named
	if many == 0 {
		return l
	}
	for trap, name := range s {
		l = append(l, named{trap, name})
		if len(l) == many {
			break
		}
	}
	return l
}

func TestTraps(t *testing.T) { // P16.1
	walk := event.Traps()
	for many := range len(allTraps) + 1 {
		if got := firstTraps(many, walk); !slices.Equal(got, allTraps[:many]) {
			t.Errorf("the first %d: %v", many, got)
		}
		if got := firstTraps(-1, walk); !slices.Equal(got, allTraps) {
			t.Errorf("gone over again, behind %d: %v", many, got)
		}
	}
	calls := 0
	event.Traps()(func(api.Trap, string) bool {
		calls++
		return calls < 3
	})
	if calls != 3 {
		t.Errorf("left at 3, it told %d", calls)
	}
	for at := range allTraps {
		// Each name is that of the trap's texts, too.
		e := api.Event{Kind: api.EvTrap, Trap: allTraps[at].trap}
		if got, why := event.Text(e); got != "0 f0:0 trap "+allTraps[at].name || why != api.OK {
			t.Errorf("Text(%v) = %q, %v", e, got, why)
		}
	}
}

func TestNothingThatIsHandedInIsChanged(t *testing.T) { // P16.2
	for _, e := range few() {
		room := append(raw(e), 7, 8, 9)
		before := bytes.Clone(room)
		part := room[:len(room)-3]
		event.Read(part)
		for range event.Each(part) {
		}
		if !bytes.Equal(room, before) {
			t.Errorf("%x, not %x", room, before)
		}
	}
}
