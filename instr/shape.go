package instr

import (
	"math"
	"slices"

	"linesman/api"
	"linesman/arith"
)

// marked stands ahead of the number of a register in a text.
const marked = "r"

// names are the words with which texts begin, by Ops; that of OpArith is its kind's.
var names = [...]string{
	api.OpConst:   "const",
	api.OpMove:    "move",
	api.OpJump:    "jump",
	api.OpIf:      "if",
	api.OpLoad:    "load",
	api.OpStore:   "store",
	api.OpCall:    "call",
	api.OpReturn:  "return",
	api.OpGo:      "go",
	api.OpLock:    "lock",
	api.OpUnlock:  "unlock",
	api.OpRLock:   "rlock",
	api.OpRUnlock: "runlock",
	api.OpWLock:   "wlock",
	api.OpWUnlock: "wunlock",
	api.OpCount:   "count",
	api.OpWait:    "wait",
	api.OpYield:   "yield",
}

// number is what a number of an instruction may be, and how a text has it.
type number struct {
	least, most int64
	mark        string
	// unsaid is one of which the text's first word tells.
	unsaid bool
}

// shape is what an Op names of A, B, C and Imm: what they are in an instruction; nil, if it does not name them.
type shape struct {
	a, b, c, imm func(api.Ins) number
}

// shapes are those of all Ops.
func shapes() map[api.Op]shape {
	return map[api.Op]shape{
		api.OpConst:   {a: register, imm: word},
		api.OpMove:    {a: register, b: register},
		api.OpArith:   {a: register, b: register, c: register, imm: kind},
		api.OpJump:    {imm: place},
		api.OpIf:      {a: register, imm: place},
		api.OpLoad:    {a: register, b: register},
		api.OpStore:   {a: register, b: register},
		api.OpCall:    {a: register, b: register, c: handed, imm: function},
		api.OpReturn:  {a: register},
		api.OpGo:      {b: register, c: handed, imm: function},
		api.OpLock:    {a: register},
		api.OpUnlock:  {a: register},
		api.OpRLock:   {a: register},
		api.OpRUnlock: {a: register},
		api.OpWLock:   {a: register},
		api.OpWUnlock: {a: register},
		api.OpCount:   {a: register, b: register},
		api.OpWait:    {a: register},
		api.OpYield:   {},
	}
}

// register is a register's number.
func register(api.Ins) number { return number{most: api.MaxRegs - 1, mark: marked} }

// handed is how many words are handed on: no more than there are registers from B on.
func handed(i api.Ins) number { return number{most: int64(api.MaxRegs - i.B)} }

// word is any word.
func word(api.Ins) number { return number{most: math.MaxUint32} }

// kind is one of what is reckoned.
func kind(api.Ins) number {
	return number{least: int64(api.ArithAdd), most: int64(api.ArithEqual), unsaid: true}
}

// place is one in a function's code.
func place(api.Ins) number { return number{most: api.MaxCode - 1} }

// function is a function's number.
func function(api.Ins) number { return number{most: api.MaxFuncs - 1, mark: "f"} }

// part is a number that an Op names, and where an instruction has it.
type part struct {
	is    func(api.Ins) number
	width int
	get   func(api.Ins) int64
	put   func(*api.Ins, int64)
}

// parts are those that are named, in the order of bytes and of texts.
func (s shape) parts() []part {
	return named(
		part{s.a, 1, func(i api.Ins) int64 { return int64(i.A) }, func(i *api.Ins, n int64) { i.A = int(n) }},
		part{s.b, 1, func(i api.Ins) int64 { return int64(i.B) }, func(i *api.Ins, n int64) { i.B = int(n) }},
		part{s.c, 1, func(i api.Ins) int64 { return int64(i.C) }, func(i *api.Ins, n int64) { i.C = int(n) }},
		part{s.imm, 4, func(i api.Ins) int64 { return int64(i.Imm) }, func(i *api.Ins, n int64) { i.Imm = uint32(n) }},
	)
}

// named leaves out what is not named.
func named(parts ...part) []part {
	return slices.DeleteFunc(parts, func(p part) bool { return p.is == nil })
}

// holds tells if an instruction of its Op may be.
func (s shape) holds(i api.Ins) bool {
	rest := i
	for _, p := range s.parts() {
		if !p.holds(i) {
			return false
		}
		p.put(&rest, 0)
	}
	// What is not named is 0, so nothing but the Op is left.
	return rest == api.Ins{Op: i.Op}
}

// holds tells if the part of an instruction may be what it is.
func (p part) holds(i api.Ins) bool {
	n, may := p.get(i), p.is(i)
	return may.least <= n && n <= may.most
}

// refusal is what is given up with.
type refusal api.Errno

// told tells the error of what was recovered. It is a refusal: anything else is no answer, and panics on.
func told(up any) api.Errno {
	return api.Errno(up.(refusal))
}

// hold gives up, unless the instruction may be.
func hold(i api.Ins) {
	if s, is := shapes()[i.Op]; !is || !s.holds(i) {
		panic(refusal(api.ErrArg))
	}
}

// first tells the word with which an instruction's text begins.
func first(i api.Ins) string {
	if i.Op != api.OpArith {
		return names[i.Op]
	}
	// The kind of an instruction that may be has a name.
	name, _ := arith.Name(api.Arith(i.Imm))
	return name
}
