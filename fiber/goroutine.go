package fiber

import (
	"iter"

	"linesman/api"
	"linesman/stack"
)

// none is the number of no register.
const none = -1

// goroutine is a fiber from inside: a stack, with so many frames allowed.
type goroutine struct {
	*stack.Stack
	frames int
}

// begun is a goroutine at the beginning of a function.
func begun(p api.Program, frames, f int, words ...uint32) goroutine {
	must(frames >= 1 && frames <= api.MaxFrames, api.ErrArg)
	s, e := stack.New(p, f, words...)
	must(e == api.OK, e)
	return goroutine{s, frames}
}

// ended tells if it is at its end.
func (g *goroutine) ended() bool {
	return g.Depth() == 0
}

// do does what it wants; a load gets this word.
func (g *goroutine) do(word uint32) {
	must(!g.ended(), api.ErrEnded)
	e := api.OK
	switch g.want().Kind {
	case api.EvTrap:
		e = api.ErrTrapped
	case api.EvStep, api.EvEnd:
		e = g.Step(g.frames)
	case api.EvLoad:
		i, _, _ := g.Next()
		e = g.Pass(i.A, word)
	default:
		e = g.Pass(none, 0)
	}
	must(e == api.OK, e)
}

// run does what is a step, as long as that is wanted, at most so many times; it tells how many times it was.
func (g *goroutine) run(most int) int {
	many := 0
	for at, w := range g.ahead() {
		// What is told has not been done yet, so as many as its number were.
		many = at
		if at == most || w.Kind != api.EvStep {
			break
		}
	}
	return many
}

// ahead goes over what it wants, each with its number, to its end or to what can't be done; it does each behind telling it, loads getting 0.
func (g *goroutine) ahead() iter.Seq2[int, api.Want] {
	return func(yield func(int, api.Want) bool) {
		for at := 0; !g.ended(); at++ {
			w := g.want()
			if !yield(at, w) || w.Kind == api.EvTrap {
				return
			}
			g.do(0)
		}
	}
}

// copied tells the same goroutine, in new memory.
func (g *goroutine) copied() goroutine {
	return goroutine{g.Copy(), g.frames}
}

// refusal is what is given up with.
type refusal api.Errno

// told tells the error of what was recovered. It is a refusal: anything else is no answer, and panics on.
func told(up any) api.Errno {
	return api.Errno(up.(refusal))
}

// must gives up with an error, unless something is so.
func must(is bool, e api.Errno) {
	if !is {
		panic(refusal(e))
	}
}
