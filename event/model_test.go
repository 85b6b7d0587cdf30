package event_test

import (
	"encoding/binary"
	"fmt"
	"math"
	"slices"
	"strings"

	"linesman/api"
)

// form is a Kind, as the chapter's table says it: its text, with what it names.
type form struct {
	kind api.EvKind
	text string
}

// forms are all of them.
var forms = []form{
	{1, "step"},
	{2, "load Addr"},
	{3, "store Addr"},
	{4, "go Child"},
	{5, "lock Obj"},
	{6, "unlock Obj"},
	{7, "rlock Obj"},
	{8, "runlock Obj"},
	{9, "wlock Obj"},
	{10, "wunlock Obj"},
	{11, "count Obj N"},
	{12, "wait Obj"},
	{13, "end"},
	{14, "trap Trap"},
}

// trapNames are those of the traps, the first one that of 1.
var trapNames = strings.Fields("unlock count index zero many stack")

// names tells if a form names a part of an event.
func (f form) names(part string) bool {
	return slices.Contains(strings.Fields(f.text)[1:], part)
}

// formOf is that of a Kind.
func formOf(kind api.EvKind) (form, bool) {
	for _, f := range forms {
		if f.kind == kind {
			return f, true
		}
	}
	return form{}, false
}

// may tells if an event may be, as the chapter says it.
func may(e api.Event) bool {
	f, is := formOf(e.Kind)
	if !is || e.G < 0 || e.G > 65535 || e.Site.Func < 0 || e.Site.Func > 31 || e.Site.Pc < 0 || e.Site.Pc > 511 {
		return false
	}
	if !f.names("Addr") && e.Addr != 0 {
		return false
	}
	if f.names("Child") && (e.Child < 1 || e.Child > 65535 || e.Child == e.G) || !f.names("Child") && e.Child != 0 {
		return false
	}
	if f.names("Obj") && (e.Obj < 0 || e.Obj > 63) || !f.names("Obj") && e.Obj != 0 {
		return false
	}
	if f.names("N") && (e.N < -2147483648 || e.N > 2147483647) || !f.names("N") && e.N != 0 {
		return false
	}
	return f.names("Trap") && e.Trap >= 1 && e.Trap <= 6 || !f.names("Trap") && e.Trap == 0
}

// raw is an event's bytes, as the chapter says them; of one of a Kind that is there, whether it may be or not, as far as its numbers fit.
func raw(e api.Event) []byte {
	f, _ := formOf(e.Kind)
	low := binary.LittleEndian
	b := low.AppendUint16([]byte{byte(e.Kind)}, uint16(e.G))
	b = low.AppendUint16(append(b, byte(e.Site.Func)), uint16(e.Site.Pc))
	if f.names("Addr") {
		b = low.AppendUint32(b, e.Addr)
	}
	if f.names("Child") {
		b = low.AppendUint16(b, uint16(e.Child))
	}
	if f.names("Obj") {
		b = append(b, byte(e.Obj))
	}
	if f.names("N") {
		n := e.N
		if n < 0 {
			n += 4294967296
		}
		b = low.AppendUint32(b, uint32(n))
	}
	if f.names("Trap") {
		b = append(b, byte(e.Trap))
	}
	return b
}

// text is the text of an event that may be, as the chapter says it.
func text(e api.Event) string {
	f, _ := formOf(e.Kind)
	words := strings.Fields(f.text)
	for at, w := range words[1:] {
		switch w {
		case "Addr":
			words[at+1] = fmt.Sprint(e.Addr)
		case "Child":
			words[at+1] = fmt.Sprint(e.Child)
		case "Obj":
			words[at+1] = fmt.Sprint(e.Obj)
		case "N":
			words[at+1] = fmt.Sprint(e.N)
		case "Trap":
			words[at+1] = trapNames[e.Trap-1]
		}
	}
	return fmt.Sprintf("%d f%d:%d %s", e.G, e.Site.Func, e.Site.Pc, strings.Join(words, " "))
}

// read is what stands as the first bytes, as the chapter says it.
func read(b []byte) (api.Event, int, api.Errno) {
	if len(b) == 0 {
		return api.Event{}, 0, api.ErrEnds
	}
	f, is := formOf(api.EvKind(b[0]))
	if !is {
		return api.Event{}, 0, api.ErrEvent
	}
	many := 6
	for part, width := range map[string]int{"Addr": 4, "Child": 2, "Obj": 1, "N": 4, "Trap": 1} {
		if f.names(part) {
			many += width
		}
	}
	if len(b) < many {
		return api.Event{}, 0, api.ErrEnds
	}
	low := binary.LittleEndian
	e := api.Event{Kind: f.kind, G: int(low.Uint16(b[1:])), Site: api.Site{Func: int(b[3]), Pc: int(low.Uint16(b[4:]))}}
	rest := b[6:many]
	if f.names("Addr") {
		e.Addr, rest = low.Uint32(rest), rest[4:]
	}
	if f.names("Child") {
		e.Child, rest = int(low.Uint16(rest)), rest[2:]
	}
	if f.names("Obj") {
		e.Obj, rest = int(rest[0]), rest[1:]
	}
	if f.names("N") {
		e.N, rest = int64(low.Uint32(rest)), rest[4:]
		if e.N > math.MaxInt32 {
			e.N -= 4294967296
		}
	}
	if f.names("Trap") {
		e.Trap = api.Trap(rest[0])
	}
	if !may(e) {
		return api.Event{}, 0, api.ErrEvent
	}
	return e, many, api.OK
}

// releases tells if an event does, as the chapter says it.
func releases(e api.Event) bool {
	return slices.Contains([]api.EvKind{4, 6, 8, 10}, e.Kind) || e.Kind == 11 && e.N < 0
}

// conflict tells if two events do, as the chapter says it.
func conflict(a, b api.Event) bool {
	both := []api.EvKind{a.Kind, b.Kind}
	for _, two := range [][]api.EvKind{{2, 3}, {3, 2}, {3, 3}} {
		if slices.Equal(both, two) {
			return a.Addr == b.Addr
		}
	}
	return false
}

// leads tells if an event leads to another one, as the chapter says it.
func leads(a, b api.Event) bool {
	if a.G == b.G || a.Kind == 4 && a.Child == b.G {
		return true
	}
	if a.Obj != b.Obj {
		return false
	}
	for _, two := range [][2]api.EvKind{{6, 5}, {10, 7}, {10, 9}, {8, 9}} {
		if a.Kind == two[0] && b.Kind == two[1] {
			return true
		}
	}
	return a.Kind == 11 && a.N < 0 && b.Kind == 12
}

// few is one event of each Kind, with numbers that are unlike each other, where it names some.
func few() []api.Event {
	return []api.Event{
		{G: 258, Kind: 1, Site: api.Site{Func: 31, Pc: 257}},
		{G: 1, Kind: 2, Site: api.Site{Func: 2, Pc: 3}, Addr: 0xefcd6789},
		{G: 3, Kind: 3, Site: api.Site{Pc: 4}, Addr: 4096},
		{G: 5, Kind: 4, Site: api.Site{Func: 6, Pc: 511}, Child: 772},
		{G: 7, Kind: 5, Site: api.Site{Func: 8, Pc: 9}, Obj: 10},
		{G: 11, Kind: 6, Site: api.Site{Func: 12, Pc: 13}, Obj: 63},
		{G: 14, Kind: 7, Site: api.Site{Func: 15, Pc: 16}, Obj: 17},
		{G: 18, Kind: 8, Site: api.Site{Func: 19, Pc: 20}, Obj: 21},
		{G: 22, Kind: 9, Site: api.Site{Func: 23, Pc: 24}, Obj: 25},
		{G: 26, Kind: 10, Site: api.Site{Func: 27, Pc: 28}, Obj: 29},
		{G: 30, Kind: 11, Site: api.Site{Func: 0, Pc: 256}, Obj: 32, N: -33},
		{G: 34, Kind: 12, Site: api.Site{Func: 1, Pc: 35}, Obj: 36},
		{G: 65535, Kind: 13, Site: api.Site{Func: 3, Pc: 37}},
		{G: 0, Kind: 14, Site: api.Site{Func: 4, Pc: 38}, Trap: 5},
	}
}

// change is one that is made to a part of an event.
type change func(*api.Event)

// changes are, for each part of an event, those to numbers at and about all edges.
func changes() [][]change {
	ints := []int{math.MinInt, math.MinInt64 + 1, -1 << 32, -65536, -256, -1, 0, 1, 2, 31, 32, 63, 64, 255, 256, 257, 511, 512, 65534, 65535, 65536, 65537, 1 << 31, 1 << 32, 1<<32 + 1, math.MaxInt}
	all := make([][]change, 8)
	for _, n := range ints {
		all[0] = append(all[0], func(e *api.Event) { e.G = n })
		all[1] = append(all[1], func(e *api.Event) { e.Site.Func = n })
		all[2] = append(all[2], func(e *api.Event) { e.Site.Pc = n })
		all[3] = append(all[3], func(e *api.Event) { e.Child = n })
		all[4] = append(all[4], func(e *api.Event) { e.Obj = n })
	}
	for _, n := range []api.Trap{math.MinInt, -1 << 32, -256, -6, -1, 0, 1, 2, 3, 4, 5, 6, 7, 8, 255, 256, 257, 1<<32 + 1, math.MaxInt} {
		all[5] = append(all[5], func(e *api.Event) { e.Trap = n })
	}
	for _, n := range []int64{math.MinInt64, -1<<32 - 1, -1 << 32, math.MinInt32 - 1, math.MinInt32, math.MinInt32 + 1, -65536, -256, -2, -1, 0, 1, 2, 255, 256, 65536, 1 << 24, math.MaxInt32 - 1, math.MaxInt32, math.MaxInt32 + 1, 1<<32 - 1, 1 << 32, 1<<32 + 1, math.MaxInt64} {
		all[6] = append(all[6], func(e *api.Event) { e.N = n })
	}
	for _, n := range []uint32{0, 1, 255, 256, 4095, 4096, 65535, 65536, 1 << 24, 1<<31 - 1, 1 << 31, math.MaxUint32 - 1, math.MaxUint32} {
		all[7] = append(all[7], func(e *api.Event) { e.Addr = n })
	}
	return all
}

// grid is each Kind with numbers at and about all edges, of two parts each, and what is no Kind with such of one part, whether it may be or not.
func grid() []api.Event {
	var l []api.Event
	for _, base := range few() {
		for part, some := range changes() {
			for _, others := range changes()[part+1:] {
				for _, one := range some {
					for _, other := range others {
						e := base
						one(&e)
						other(&e)
						l = append(l, e)
					}
				}
			}
		}
	}
	for _, kind := range []api.EvKind{math.MinInt, -256, -14, -1, 0, 15, 16, 255, 256, 257, 256 + 14, 1<<32 + 1, math.MaxInt} {
		for _, base := range []api.Event{{Kind: kind}, {G: 1, Kind: kind, Addr: 1, Child: 2, Obj: 1, N: -1, Trap: 1}} {
			for _, one := range slices.Concat(changes()...) {
				e := base
				one(&e)
				l = append(l, e)
			}
		}
	}
	return l
}

// some are the events of the grid that may be, each once.
func some() []api.Event {
	seen := map[api.Event]bool{}
	var l []api.Event
	for _, e := range append(few(), grid()...) {
		if may(e) && !seen[e] {
			seen[e] = true
			l = append(l, e)
		}
	}
	return l
}
