package stack

import (
	"slices"

	"linesman/api"
	"linesman/arith"
)

// deeds are what local instructions do, by their Ops. Those of a stack may all be, so an Op that is here is local, whatever else is named.
func deeds() map[api.Op]func(*pile, api.Ins) {
	return map[api.Op]func(*pile, api.Ins){
		api.OpConst:  (*pile).constant,
		api.OpMove:   (*pile).move,
		api.OpArith:  (*pile).reckon,
		api.OpJump:   (*pile).jump,
		api.OpIf:     (*pile).branch,
		api.OpCall:   (*pile).call,
		api.OpReturn: (*pile).leave,
		api.OpYield:  (*pile).yield,
	}
}

func (s *pile) constant(i api.Ins) {
	s.put(i.A, i.Imm)
	s.behind()
}

func (s *pile) move(i api.Ins) {
	s.put(i.A, s.reg(i.B))
	s.behind()
}

func (s *pile) reckon(i api.Ins) {
	// What may be refused comes ahead of what changes.
	word, e := arith.Do(api.Arith(i.Imm), s.reg(i.B), s.reg(i.C))
	must(e == api.OK, e)
	s.put(i.A, word)
	s.behind()
}

func (s *pile) jump(i api.Ins) {
	s.top().Pc = int(i.Imm)
}

func (s *pile) branch(i api.Ins) {
	if s.reg(i.A) == 0 {
		s.behind()
		return
	}
	s.jump(i)
}

func (s *pile) call(i api.Ins) {
	words := s.top().Regs[i.B : i.B+i.C : i.B+i.C]
	// The one that calls goes on behind once it is the top again.
	s.behind()
	s.enter(int(i.Imm), i.A, words...)
}

func (s *pile) leave(i api.Ins) {
	word, dest := s.reg(i.A), s.top().Dest
	last := len(s.frames) - 1
	s.frames = slices.Delete(s.frames, last, last+1)
	if s.ended() {
		s.result = word
		return
	}
	s.put(dest, word)
}

func (s *pile) yield(api.Ins) {
	s.behind()
}
