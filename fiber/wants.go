package fiber

import (
	"linesman/api"
	"linesman/arith"
)

// things are what is wanted of shared things, by the Ops that name them.
var things = [api.OpYield + 1]api.EvKind{
	api.OpLock:    api.EvLock,
	api.OpUnlock:  api.EvUnlock,
	api.OpRLock:   api.EvRLock,
	api.OpRUnlock: api.EvRUnlock,
	api.OpWLock:   api.EvWLock,
	api.OpWUnlock: api.EvWUnlock,
	api.OpCount:   api.EvCount,
	api.OpWait:    api.EvWait,
}

// wants are what Ops want, where that is more than a step and more than a shared thing. It is made at each look, so it has no Op that it need not: a map of more than eight is made ten times as slowly.
func wants() map[api.Op]func(*goroutine, api.Ins) api.Want {
	return map[api.Op]func(*goroutine, api.Ins) api.Want{
		api.OpArith:  (*goroutine).reckon,
		api.OpCall:   (*goroutine).call,
		api.OpReturn: (*goroutine).leave,
		api.OpLoad:   (*goroutine).load,
		api.OpStore:  (*goroutine).store,
		api.OpGo:     (*goroutine).begin,
		api.OpCount:  (*goroutine).count,
	}
}

// want tells what it is about to do; it is not at its end.
func (g *goroutine) want() api.Want {
	i, at, _ := g.Next()
	w := g.wanted(i)
	w.Site = at
	return w
}

// wanted tells what an instruction wants, but its site.
func (g *goroutine) wanted(i api.Ins) api.Want {
	of, is := wants()[i.Op]
	switch {
	case is:
		return of(g, i)
	case things[i.Op] != api.EvNone:
		return g.thing(i)
	}
	return step()
}

func (g *goroutine) reckon(i api.Ins) api.Want {
	// Whether it can be reckoned is all that is asked here: a step does it.
	if _, e := arith.Do(api.Arith(i.Imm), g.Reg(i.B), g.Reg(i.C)); e == api.ErrZero {
		return trap(api.TrapZero)
	}
	return step()
}

func (g *goroutine) call(api.Ins) api.Want {
	if g.Depth() >= g.frames {
		return trap(api.TrapStack)
	}
	return step()
}

func (g *goroutine) leave(api.Ins) api.Want {
	if g.Depth() == 1 {
		return api.Want{Kind: api.EvEnd}
	}
	return step()
}

func (g *goroutine) load(i api.Ins) api.Want {
	return api.Want{Kind: api.EvLoad, Addr: g.Reg(i.B)}
}

func (g *goroutine) store(i api.Ins) api.Want {
	return api.Want{Kind: api.EvStore, Addr: g.Reg(i.A), Word: g.Reg(i.B)}
}

func (g *goroutine) begin(i api.Ins) api.Want {
	return beginning(int(i.Imm), gathered(i.B, i.C, g.Reg)...)
}

func (g *goroutine) count(i api.Ins) api.Want {
	w := g.thing(i)
	w.N = arith.Signed(g.Reg(i.B))
	return w
}

// thing is a want of the shared thing whose number is the word in A.
func (g *goroutine) thing(i api.Ins) api.Want {
	return api.Want{Kind: things[i.Op], Obj: g.Reg(i.A)}
}

// step is a want of what touches nothing that is shared.
func step() api.Want {
	return api.Want{Kind: api.EvStep}
}

// trap is a want of what can't be done.
func trap(why api.Trap) api.Want {
	return api.Want{Kind: api.EvTrap, Trap: why}
}

// beginning is a want that a goroutine begins, with a function of words.
func beginning(f int, words ...uint32) api.Want {
	return api.Want{Kind: api.EvGo, Func: f, Args: words}
}

// gathered tells what one tells of so many numbers, from one on.
func gathered[T any](from, many int, one func(int) T) []T {
	var l []T
	for n := range many {
		l = append(l, one(from+n))
	}
	return l
}
