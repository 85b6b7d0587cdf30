package event_test

import (
	"bytes"
	"iter"
	"slices"
	"testing"

	"linesman/api"
	"linesman/event"
)

// reads sees to it that Read tells what the chapter says of bytes.
func reads(t *testing.T, b []byte) {
	t.Helper()
	want, much, e := read(b)
	if got, many, why := event.Read(b); got != want || many != much || why != e {
		t.Errorf("Read(%x) = %v, %d, %v, not %v, %d, %v", b, got, many, why, want, much, e)
	}
}

func TestBytesAndRead(t *testing.T) { // P16.2, P16.4
	for _, e := range some() {
		want := raw(e)
		if got, why := event.Bytes(e); !bytes.Equal(got, want) || why != api.OK {
			t.Errorf("Bytes(%v) = %x, %v", e, got, why)
		}
		for _, behind := range [][]byte{nil, {0}, {255, 255}, {1, 0, 0, 0, 0, 0}} {
			if got, many, why := event.Read(append(raw(e), behind...)); got != e || many != len(want) || why != api.OK {
				t.Errorf("Read(%x, %x) = %v, %d, %v", want, behind, got, many, why)
			}
		}
	}
}

func TestBytesOfEachKind(t *testing.T) { // P16.2
	want := []string{
		"\x01\x02\x01\x1f\x01\x01", "\x02\x01\x00\x02\x03\x00\x89\x67\xcd\xef", "\x03\x03\x00\x00\x04\x00\x00\x10\x00\x00", "\x04\x05\x00\x06\xff\x01\x04\x03",
		"\x05\x07\x00\x08\x09\x00\x0a", "\x06\x0b\x00\x0c\x0d\x00\x3f", "\x07\x0e\x00\x0f\x10\x00\x11", "\x08\x12\x00\x13\x14\x00\x15", "\x09\x16\x00\x17\x18\x00\x19", "\x0a\x1a\x00\x1b\x1c\x00\x1d",
		"\x0b\x1e\x00\x00\x00\x01\x20\xdf\xff\xff\xff", "\x0c\x22\x00\x01\x23\x00\x24", "\x0d\xff\xff\x03\x25\x00", "\x0e\x00\x00\x04\x26\x00\x05",
	}
	for at, e := range few() {
		if got, why := event.Bytes(e); string(got) != want[at] || why != api.OK {
			t.Errorf("Bytes(%v) = %x, %v", e, got, why)
		}
		if got, many, why := event.Read([]byte(want[at])); got != e || many != len(want[at]) || why != api.OK {
			t.Errorf("Read(%x) = %v, %d, %v", want[at], got, many, why)
		}
	}
}

func TestBytesOfCounts(t *testing.T) { // P16.2
	for n, want := range map[int64]string{-1 << 31: "\x00\x00\x00\x80", -1<<31 + 1: "\x01\x00\x00\x80", -1: "\xff\xff\xff\xff", -256: "\x00\xff\xff\xff", 0: "\x00\x00\x00\x00", 1: "\x01\x00\x00\x00", 1<<31 - 1: "\xff\xff\xff\x7f"} {
		e := api.Event{Kind: api.EvCount, Obj: 2, N: n}
		whole := "\x0b\x00\x00\x00\x00\x00\x02" + want
		if got, why := event.Bytes(e); string(got) != whole || why != api.OK {
			t.Errorf("Bytes(%v) = %x, %v", e, got, why)
		}
		if got, many, why := event.Read([]byte(whole)); got != e || many != 11 || why != api.OK {
			t.Errorf("Read(%x) = %v, %d, %v", whole, got, many, why)
		}
	}
}

func TestReadOfEachKind(t *testing.T) { // P16.2
	for kind := range 256 {
		for many := range 14 {
			for _, one := range []byte{0, 1, 6, 7, 31, 32, 63, 64, 255} {
				b := bytes.Repeat([]byte{one}, many+1)
				b[0] = byte(kind)
				reads(t, b)
			}
		}
		// That there is no such Kind goes ahead of where they end.
		if kind < 1 || kind > 14 {
			if got, many, why := event.Read([]byte{byte(kind)}); got != (api.Event{}) || many != 0 || why != api.ErrEvent {
				t.Errorf("Read(%x) = %v, %d, %v", kind, got, many, why)
			}
		}
	}
}

func TestReadOfBytesThatEnd(t *testing.T) { // P16.2
	ends := func(b []byte) {
		t.Helper()
		if got, many, why := event.Read(b); got != (api.Event{}) || many != 0 || why != api.ErrEnds {
			t.Errorf("Read(%x) = %v, %d, %v", b, got, many, why)
		}
	}
	ends(nil)
	ends([]byte{})
	for _, e := range few() {
		// What is behind the end is no byte of it, though there is room.
		whole := raw(e)
		for many := range len(whole) {
			ends(whole[:many])
		}
		// That they end goes ahead of what may not be: a site that is none, too.
		for many := 1; many < len(whole); many++ {
			ends(append([]byte{byte(e.Kind)}, bytes.Repeat([]byte{255}, many-1)...))
		}
	}
}

func TestReadOfWhatMayNotBe(t *testing.T) { // P16.2
	for _, text := range []string{
		"\x01\x00\x00\x20\x00\x00",                     // a function that is none
		"\x01\x00\x00\x00\x00\x02",                     // a place that is none
		"\x02\x00\x00\x00\x00\x02\x00\x00\x00\x00",     // so of a load
		"\x04\x00\x00\x00\x00\x00\x00\x00",             // goroutine 0 begins
		"\x04\x07\x01\x00\x00\x00\x07\x01",             // it begins itself
		"\x05\x00\x00\x00\x00\x00\x40",                 // no such mutex
		"\x0b\x00\x00\x00\x00\x00\x40\x00\x00\x00\x00", // no such group
		"\x0e\x00\x00\x00\x00\x00\x00",                 // no trap
		"\x0e\x00\x00\x00\x00\x00\x07",
		"\x00",
		"\x0f\x00\x00\x00\x00\x00",
	} {
		if got, many, why := event.Read([]byte(text)); got != (api.Event{}) || many != 0 || why != api.ErrEvent {
			t.Errorf("Read(%x) = %v, %d, %v", text, got, many, why)
		}
	}
}

func TestReadOfAByteOtherwise(t *testing.T) { // P16.2
	for _, e := range append(few(), api.Event{G: 257, Kind: api.EvGo, Child: 1}, api.Event{Kind: api.EvTrap, Trap: 1}, api.Event{Kind: api.EvCount, N: -1 << 31}) {
		whole := raw(e)
		for at := range whole {
			for one := range 256 {
				b := slices.Clone(whole)
				b[at] = byte(one)
				reads(t, b)
				reads(t, append(b, 0, 0, 0, 0, 0, 0, 0, 0))
			}
		}
	}
}

func TestReadOfSitesAndChildren(t *testing.T) { // P16.2
	for one := range 34 {
		for other := range 515 {
			reads(t, []byte{1, 0, 0, byte(one), byte(other), byte(other >> 8)})
		}
	}
	for child := range 1 << 16 {
		reads(t, []byte{4, 2, 1, 0, 0, 0, byte(child), byte(child >> 8)})
	}
}

func TestNoBytesBeginOthers(t *testing.T) { // P16.4
	of := map[string]api.Event{}
	for _, e := range some() {
		b, _ := event.Bytes(e)
		if other, is := of[string(b)]; is {
			t.Errorf("%x are those of %v, and of %v", b, other, e)
		}
		of[string(b)] = e
	}
	for b, e := range of {
		for many := range len(b) {
			if other, is := of[b[:many]]; is {
				t.Errorf("the bytes of %v begin those of %v", other, e)
			}
		}
	}
}

func TestWhatIsReadIsToldAgain(t *testing.T) { // P16.4
	some := 0
	for kind := range 16 {
		for one := range 256 {
			b := bytes.Repeat([]byte{byte(one)}, 11)
			b[0], b[3], b[5] = byte(kind), byte(one%32), byte(one%2)
			e, many, why := event.Read(b)
			if why != api.OK {
				continue
			}
			some++
			if got, why := event.Bytes(e); !bytes.Equal(got, b[:many]) || why != api.OK {
				t.Errorf("Read(%x), Bytes: %x, %v", b, got, why)
			}
			if why := event.Check(e); why != api.OK {
				t.Errorf("Read(%x), Check: %v", b, why)
			}
		}
	}
	if some < 1000 {
		t.Errorf("just %d were read", some)
	}
}

func TestBytesAreNew(t *testing.T) { // P16.2
	for _, e := range few() {
		b, _ := event.Bytes(e)
		other, _ := event.Bytes(e)
		for at := range b[:cap(b)] {
			b[:cap(b)][at] = 0xaa
		}
		if again, _ := event.Bytes(e); !bytes.Equal(other, raw(e)) || !bytes.Equal(again, raw(e)) {
			t.Errorf("Bytes(%v) = %x, then %x", e, other, again)
		}
	}
}

// told is what a walk told once.
type told struct {
	at int
	e  api.Event
}

// first are the first few of what a walk tells.
func first(many int, s iter.Seq2[int, api.Event]) []told {
	var l []told
	if many == 0 {
		return l
	}
	for at, e := range s {
		l = append(l, told{at, e})
		if len(l) == many {
			break
		}
	}
	return l
}

// row are the bytes of some, one behind the other, and where each begins.
func row(l ...api.Event) ([]byte, []told) {
	var b []byte
	var where []told
	for _, e := range l {
		where = append(where, told{len(b), e})
		b = append(b, raw(e)...)
	}
	return b, where
}

func TestEach(t *testing.T) { // P16.2
	for _, l := range [][]api.Event{nil, few(), some(), {{Kind: api.EvStep}, {Kind: api.EvStep}}, {{Kind: api.EvCount, N: -1}}} {
		b, want := row(l...)
		if got := first(-1, event.Each(b)); !slices.Equal(got, want) {
			t.Errorf("Each(%.40x): %v, not %v", b, got, want)
		}
	}
	for _, b := range [][]byte{nil, {}} {
		walk := event.Each(b)
		if walk == nil || first(-1, walk) != nil {
			t.Errorf("Each(%v)", b)
		}
	}
}

func TestEachEndsAtWhatIsNone(t *testing.T) { // P16.2
	b, want := row(few()...)
	step := []byte{1, 0, 0, 0, 0, 0}
	for _, behind := range [][]byte{{0}, {15}, {255}, {1}, {2, 0, 0, 0, 0, 0, 0, 0}, {1, 0, 0, 32, 0, 0}, {1, 0, 0, 0, 0, 2}, {4, 1, 0, 0, 0, 0, 1, 0}, {5, 0, 0, 0, 0, 0, 64}, {14, 0, 0, 0, 0, 0, 0}, {14, 0, 0, 0, 0, 0, 7}} {
		if got := first(-1, event.Each(append(slices.Clone(b), behind...))); !slices.Equal(got, want) {
			t.Errorf("Each, with %x at its end: %v", behind, got)
		}
		// What stands behind what is none is not gone over any more.
		if _, _, why := read(append(slices.Clone(behind), step...)); why == api.OK {
			continue
		}
		if got := first(-1, event.Each(append(behind, step...))); got != nil {
			t.Errorf("Each(%x): %v", behind, got)
		}
	}
	for many := range b {
		var whole []told
		for _, w := range want {
			if w.at+len(raw(w.e)) <= many {
				whole = append(whole, w)
			}
		}
		if got := first(-1, event.Each(b[:many])); !slices.Equal(got, whole) {
			t.Errorf("Each of %d bytes: %v", many, got)
		}
	}
}

func TestAWalkIsLeft(t *testing.T) { // P16.2
	b, want := row(few()...)
	walk := event.Each(b)
	for many := range len(want) + 1 {
		if got := first(many, walk); !slices.Equal(got, want[:many]) {
			t.Errorf("the first %d: %v", many, got)
		}
		if got := first(-1, walk); !slices.Equal(got, want) {
			t.Errorf("gone over again, behind %d: %v", many, got)
		}
	}
	some := 0
	for at, e := range walk {
		if got := first(some+1, walk); got[some] != (told{at, e}) {
			t.Errorf("within itself, at %d: %v", at, got)
		}
		some++
	}
	for many := range 4 {
		calls := 0
		event.Each(b)(func(int, api.Event) bool {
			calls++
			return calls <= many
		})
		if calls != many+1 {
			t.Errorf("left at %d, it told %d", many+1, calls)
		}
	}
}

func TestAWalkGoesOverTheBytesAsTheyWere(t *testing.T) { // P16.2
	b, want := row(few()...)
	before := slices.Clone(b)
	walk := event.Each(b)
	if first(-1, walk); !bytes.Equal(b, before) {
		t.Errorf("Each changed its bytes: %x", b)
	}
	var got []told
	for at, e := range walk {
		got = append(got, told{at, e})
		clear(b)
	}
	if !slices.Equal(got, want) {
		t.Errorf("while they are cleared: %v", got)
	}
	if got := first(-1, walk); !slices.Equal(got, want) {
		t.Errorf("once more: %v", got)
	}
	// What stands behind the end, where there is room, is none of them.
	room, _ := row(few()...)
	walk = event.Each(room[:3:len(room)])
	if got := first(-1, walk); got != nil {
		t.Errorf("Each of 3 bytes: %v", got)
	}
}

func TestAPanicOfWhoWalksIsTheirs(t *testing.T) { // P16.1, P16.2
	b, _ := row(few()...)
	for _, walk := range []func(){
		func() {
			for range event.Each(b) {
				panic("mine")
			}
		},
		func() {
			for range event.Traps() {
				panic("mine")
			}
		},
	} {
		func() {
			defer func() {
				if up := recover(); up != "mine" {
					t.Errorf("recovered: %v", up)
				}
			}()
			walk()
		}()
	}
}
