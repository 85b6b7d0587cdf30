package fiber_test

import (
	"math"
	"slices"
	"testing"

	"linesman/api"
	"linesman/fiber"
	"linesman/stack"
)

// straight is a program that does three local things, then something else, then two more.
func straight(i api.Ins) api.Program {
	yield := api.Ins{Op: api.OpYield}
	return of(code(2, yield, api.Ins{Op: api.OpCall, Imm: 1}, i, yield, api.Ins{Op: api.OpJump, Imm: 5}, back(0)), code(1, back(0)))
}

func TestRunGoesToWhatIsNoStep(t *testing.T) { // P17.2
	stops := map[api.EvKind]api.Ins{api.EvTrap: {Op: api.OpArith, Imm: uint32(api.ArithDiv)}, api.EvEnd: {Op: api.OpReturn, A: 1}}
	for _, op := range shared {
		f := made(t, straight(api.Ins{Op: op}), 2, 0)
		does(t, f, 3)
		w, _ := f.Want()
		stops[w.Kind] = api.Ins{Op: op}
	}
	for kind, i := range stops {
		for most := range 6 {
			f, m := made(t, straight(i), 2, 0), modelled(straight(i), 2, 0)
			many, e := f.Run(most)
			want, _ := m.run(most)
			if many != min(most, 3) || many != want || e != api.OK {
				t.Errorf("Run(%d) to Kind %d: %d, %v", most, kind, many, e)
			}
			holds(t, f, m)
			if w, is := f.Want(); !is || (w.Kind == kind) != (most >= 3) {
				t.Errorf("Run(%d): %v, %v", most, w, is)
			}
		}
		for _, most := range []int{1 << 31, 1 << 32, math.MaxInt - 1, math.MaxInt} {
			f := made(t, straight(i), 2, 0)
			if many, e := f.Run(most); many != 3 || e != api.OK {
				t.Errorf("Run(%d) to Kind %d: %d, %v", most, kind, many, e)
			}
			if many, e := f.Run(most); many != 0 || e != api.OK {
				t.Errorf("Run(%d) again: %d, %v", most, many, e)
			}
		}
	}
}

func TestRunAtMostSoManyTimes(t *testing.T) { // P17.2
	f, all := made(t, loop(), 1, 0), 0
	for _, most := range []int{0, 1, 2, 3, 0, 10, 4999, 5000} {
		if many, e := f.Run(most); many != most || e != api.OK {
			t.Errorf("Run(%d): %d, %v", most, many, e)
		}
		all += most
		// It adds at the second, the fourth and so on of what it does.
		if n := f.Stack().Reg(0); n != uint32(all/2) {
			t.Errorf("behind %d: %d", all, n)
		}
	}
	// All of what runs is the same as doing it bit by bit.
	other := made(t, loop(), 1, 0)
	does(t, other, all)
	if !stack.Same(f.Stack(), other.Stack()) {
		t.Errorf("%v, %v", frames(f.Stack()), frames(other.Stack()))
	}
}

func TestRunRefuses(t *testing.T) { // P17.2
	all := map[string]*fiber.Fiber{"ahead of a step": made(t, loop(), 1, 0), "at the end": ended(t), "zero": trapped(t)[api.TrapZero], "deep": trapped(t)[api.TrapStack]}
	all["ahead of a store"] = made(t, example(), 1, 0)
	all["ahead of a store"].Run(1)
	for name, f := range all {
		for _, most := range []int{math.MinInt, math.MinInt + 1, -1 << 32, -2, -1} {
			s := f.Stack()
			if many, e := f.Run(most); many != 0 || e != api.ErrArg || !stack.Same(f.Stack(), s) {
				t.Errorf("%s: Run(%d): %d, %v", name, most, many, e)
			}
		}
		if name == "ahead of a step" {
			continue
		}
		// What is no step is done no times, and that is no error.
		for _, most := range []int{0, 1, math.MaxInt} {
			s := f.Stack()
			if many, e := f.Run(most); many != 0 || e != api.OK || !stack.Same(f.Stack(), s) {
				t.Errorf("%s: Run(%d): %d, %v", name, most, many, e)
			}
		}
	}
}

// all is a program with each Kind, at whose end a trap is wanted where its word is 0.
func all() api.Program {
	l := []api.Ins{{Op: api.OpYield}, {Op: api.OpLoad, A: 1, B: 2}, {Op: api.OpIf, A: 1, Imm: 14}, {Op: api.OpGo, B: 1, C: 2}}
	for op := api.OpLock; op <= api.OpWait; op++ {
		l = append(l, api.Ins{Op: op, A: 2})
	}
	l = append(l, api.Ins{Op: api.OpStore, A: 2, B: 2}, api.Ins{Op: api.OpMove, A: 1, B: 0}, api.Ins{Op: api.OpArith, A: 1, B: 0, C: 0, Imm: uint32(api.ArithMod)}, back(2))
	return of(code(3, l...))
}

func TestAhead(t *testing.T) { // P17.2
	for _, word := range []uint32{0, 1} {
		f, m := made(t, all(), 1, 0, word, 0, 9), modelled(all(), 1, 0, word, 0, 9)
		want := m.ahead(100)
		last := want[len(want)-1]
		if len(want) != 16-int(1-word) || (last.Kind == api.EvTrap) != (word == 0) || (last.Kind == api.EvEnd) != (word == 1) {
			t.Fatalf("of %d: %v", word, want)
		}
		s := f.Stack()
		for most := range len(want) + 3 {
			got := gone(t, -1, fiber.Ahead(f, most))
			if !slices.EqualFunc(got, want[:min(most, len(want))], sameWant) {
				t.Errorf("Ahead(%d): %v", most, got)
			}
		}
		for _, most := range append([]int{-1, -2}, huge...) {
			got := gone(t, -1, fiber.Ahead(f, most))
			if most < 0 && got != nil || most > 0 && !slices.EqualFunc(got, want, sameWant) {
				t.Errorf("Ahead(%d): %v", most, got)
			}
		}
		holds(t, f, m)
		if !stack.Same(f.Stack(), s) {
			t.Errorf("the fiber has gone on")
		}
		// What is told ahead is what is wanted then, of a fiber whose loads get 0.
		for at, w := range want {
			if now, is := f.Want(); !is || !sameWant(now, w) {
				t.Errorf("want %d: %v, not %v", at, now, w)
			}
			f.Do(0)
		}
	}
}

func TestLoadsAheadGetNothing(t *testing.T) { // P17.2
	// The register that is loaded to has a word already; a load that gets 0 takes that away.
	p := of(code(2, api.Ins{Op: api.OpLoad, A: 0, B: 1}, api.Ins{Op: api.OpLock, A: 0}, back(0)))
	f := made(t, p, 1, 0, 5, 6)
	got := gone(t, -1, fiber.Ahead(f, 9))
	if len(got) != 3 || got[0].Addr != 6 || got[1].Obj != 0 {
		t.Errorf("%v", got)
	}
	if e := f.Do(7); e != api.OK {
		t.Fatalf("Do: %v", e)
	}
	if got = gone(t, -1, fiber.Ahead(f, 9)); len(got) != 2 || got[0].Obj != 7 {
		t.Errorf("%v", got)
	}
}

func TestAheadAtTheEndAndAtATrap(t *testing.T) { // P17.2
	f := ended(t)
	for _, most := range append([]int{0, 1, 2}, huge...) {
		if got := gone(t, -1, fiber.Ahead(f, most)); got != nil {
			t.Errorf("at the end: Ahead(%d): %v", most, got)
		}
	}
	for why, f := range trapped(t) {
		w, _ := f.Want()
		for most := range 4 {
			got := gone(t, -1, fiber.Ahead(f, most))
			if len(got) != min(most, 1) || most > 0 && (!sameWant(got[0], w) || w.Trap != why) {
				t.Errorf("at a trap: Ahead(%d): %v", most, got)
			}
		}
	}
}

func TestAheadIsLeftAndGoneOverAgain(t *testing.T) { // P17.2
	f, m := made(t, all(), 1, 0, 1, 0, 9), modelled(all(), 1, 0, 1, 0, 9)
	want := m.ahead(100)
	walk := fiber.Ahead(f, 100)
	for many := range len(want) + 1 {
		if got := gone(t, many, walk); !slices.EqualFunc(got, want[:many], sameWant) {
			t.Errorf("the first %d: %v", many, got)
		}
		if got := gone(t, -1, walk); !slices.EqualFunc(got, want, sameWant) {
			t.Errorf("gone over again, behind %d: %v", many, got)
		}
	}
	// One within another one, of the same walk, goes over the same.
	at := 0
	for _, w := range walk {
		if got := gone(t, -1, walk); !sameWant(w, want[at]) || !slices.EqualFunc(got, want, sameWant) {
			t.Errorf("within, at %d: %v, %v", at, w, got)
		}
		at++
	}
	holds(t, f, m)
	// One that never ends can be left, however many it may be.
	for _, most := range []int{1000, math.MaxInt} {
		walk = fiber.Ahead(made(t, loop(), 1, 0), most)
		for range 2 {
			if got := gone(t, 999, walk); len(got) != 999 || got[998].Kind != api.EvStep || got[998].Site.Pc != 2 {
				t.Errorf("%d", len(got))
			}
		}
	}
	if got := gone(t, -1, fiber.Ahead(made(t, loop(), 1, 0), 1000)); len(got) != 1000 {
		t.Errorf("%d", len(got))
	}
}

func TestAheadGoesOverWhatWas(t *testing.T) { // P17.2
	f, m := made(t, all(), 1, 0, 1, 0, 9), modelled(all(), 1, 0, 1, 0, 9)
	want := m.ahead(100)
	walk := fiber.Ahead(f, 100)
	// What the fiber does later, ahead of a walk and within it, changes nothing of that.
	does(t, f, 3)
	if got := gone(t, -1, walk); !slices.EqualFunc(got, want, sameWant) {
		t.Errorf("%v", got)
	}
	at := 0
	for _, w := range walk {
		f.Do(8)
		if !sameWant(w, want[at]) {
			t.Errorf("at %d: %v", at, w)
		}
		at++
	}
	if at != len(want) || !f.Ended() {
		t.Errorf("%d of %d, ended: %v", at, len(want), f.Ended())
	}
	if got := gone(t, -1, walk); !slices.EqualFunc(got, want, sameWant) {
		t.Errorf("%v", got)
	}
	// Words that were told are not told otherwise by who writes to them.
	for _, w := range walk {
		for at := range w.Args {
			w.Args[at] = 77
		}
	}
	if got := gone(t, -1, walk); !slices.EqualFunc(got, want, sameWant) {
		t.Errorf("%v", got)
	}
}
