package event

import (
	"math"
	"strconv"

	"linesman/api"
	"linesman/octet"
)

// kinds are the words of texts that tell Kinds.
var kinds = [...]string{
	api.EvStep:    "step",
	api.EvLoad:    "load",
	api.EvStore:   "store",
	api.EvGo:      "go",
	api.EvLock:    "lock",
	api.EvUnlock:  "unlock",
	api.EvRLock:   "rlock",
	api.EvRUnlock: "runlock",
	api.EvWLock:   "wlock",
	api.EvWUnlock: "wunlock",
	api.EvCount:   "count",
	api.EvWait:    "wait",
	api.EvEnd:     "end",
	api.EvTrap:    "trap",
}

// traps are the names of traps.
var traps = [...]string{
	api.TrapUnlock: "unlock",
	api.TrapCount:  "count",
	api.TrapIndex:  "index",
	api.TrapZero:   "zero",
	api.TrapMany:   "many",
	api.TrapStack:  "stack",
}

// part is a number that an event names: where an event has it, whether it may be what it is there, and how a text has it.
type part struct {
	width int
	get   func(api.Event) int64
	put   func(*api.Event, int64)
	may   func(api.Event) bool
	word  func(int64) string
}

// named are the parts that Kinds name, in the order of bytes and of texts.
func named() map[api.EvKind][]part {
	nothing, word, thing := list(), list(address()), list(object())
	return map[api.EvKind][]part{
		api.EvStep:    nothing,
		api.EvLoad:    word,
		api.EvStore:   word,
		api.EvGo:      list(child()),
		api.EvLock:    thing,
		api.EvUnlock:  thing,
		api.EvRLock:   thing,
		api.EvRUnlock: thing,
		api.EvWLock:   thing,
		api.EvWUnlock: thing,
		api.EvCount:   list(object(), counted()),
		api.EvWait:    thing,
		api.EvEnd:     nothing,
		api.EvTrap:    list(trap()),
	}
}

// list is parts, one behind the other.
func list(parts ...part) []part {
	return parts
}

// goroutine is the number of who does it, which every event names.
func goroutine() part {
	return part{
		width: 2,
		get:   func(e api.Event) int64 { return int64(e.G) },
		put:   func(e *api.Event, n int64) { e.G = int(n) },
		may:   func(e api.Event) bool { return e.G >= 0 && e.G <= api.MaxId },
		word:  decimal,
	}
}

// address is that of a word of memory: any word may be one.
func address() part {
	return part{
		width: 4,
		get:   func(e api.Event) int64 { return int64(e.Addr) },
		put:   func(e *api.Event, n int64) { e.Addr = uint32(n) },
		may:   func(api.Event) bool { return true },
		word:  decimal,
	}
}

// child is a goroutine that another one makes begin: so neither 0 nor that one.
func child() part {
	return part{
		width: 2,
		get:   func(e api.Event) int64 { return int64(e.Child) },
		put:   func(e *api.Event, n int64) { e.Child = int(n) },
		may:   func(e api.Event) bool { return e.Child >= 1 && e.Child <= api.MaxId && e.Child != e.G },
		word:  decimal,
	}
}

// object is a shared thing's number.
func object() part {
	return part{
		width: 1,
		get:   func(e api.Event) int64 { return int64(e.Obj) },
		put:   func(e *api.Event, n int64) { e.Obj = int(n) },
		may:   func(e api.Event) bool { return e.Obj >= 0 && e.Obj < api.MaxObjects },
		word:  decimal,
	}
}

// counted is how much a group counts more; bytes have it without its sign.
func counted() part {
	return part{
		width: 4,
		get:   func(e api.Event) int64 { return e.N },
		put:   func(e *api.Event, n int64) { e.N = int64(int32(n)) },
		may:   func(e api.Event) bool { return e.N >= math.MinInt32 && e.N <= math.MaxInt32 },
		word:  decimal,
	}
}

// trap is why nothing goes on.
func trap() part {
	return part{
		width: 1,
		get:   func(e api.Event) int64 { return int64(e.Trap) },
		put:   func(e *api.Event, n int64) { e.Trap = api.Trap(n) },
		may:   func(e api.Event) bool { return e.Trap >= api.TrapUnlock && e.Trap <= api.TrapStack },
		word:  func(n int64) string { return traps[n] },
	}
}

// decimal tells a number's digits.
func decimal(n int64) string {
	return strconv.FormatInt(n, 10)
}

// written tells the bytes of parts of an event that may be.
func written(e api.Event, parts ...part) []byte {
	var all []byte
	for _, p := range parts {
		n := p.get(e)
		if n < 0 {
			n += 1 << (8 * p.width)
		}
		// A number that may be fits its width.
		b, _ := octet.Fixed(uint64(n), p.width)
		all = append(all, b...)
	}
	return all
}

// said tells the words of parts of an event that may be.
func said(e api.Event, parts ...part) []string {
	var words []string
	for _, p := range parts {
		words = append(words, p.word(p.get(e)))
	}
	return words
}
