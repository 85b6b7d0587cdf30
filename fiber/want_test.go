package fiber_test

import (
	"fmt"
	"math"
	"math/rand/v2"
	"slices"
	"testing"

	"linesman/api"
	"linesman/arith"
	"linesman/fiber"
	"linesman/instr"
	"linesman/stack"
)

// within is a fiber with four registers and so many frames allowed, ahead of an instruction at f1:2, where function 0 has called.
func within(t *testing.T, i api.Ins, allowed int, words ...uint32) (*fiber.Fiber, *model) {
	t.Helper()
	yield := api.Ins{Op: api.OpYield}
	p := of(code(4, api.Ins{Op: api.OpCall, A: 3, C: len(words), Imm: 1}, back(0)), code(4, yield, yield, i, yield, back(0)))
	f, m := made(t, p, allowed, 0, words...), modelled(p, allowed, 0, words...)
	for range 3 {
		does(t, f, 1)
		m.do(0)
	}
	holds(t, f, m)
	return f, m
}

// each holds what an instruction wants, and what is done by it, with a word for a load.
func each(t *testing.T, name string, i api.Ins, want api.Want, word uint32, words ...uint32) {
	t.Helper()
	want.Site = api.Site{Func: 1, Pc: 2}
	f, m := within(t, i, 9, words...)
	if w, is := f.Want(); !is || !sameWant(w, want) {
		t.Errorf("%s: Want: %v, %v, not %v", name, w, is, want)
	}
	holds(t, f, m)
	e, no := f.Do(word), m.do(word)
	if e != no || (e != api.OK) != (want.Kind == api.EvTrap) {
		t.Errorf("%s: Do(%d): %v, not %v", name, word, e, no)
	}
	holds(t, f, m)
}

func TestWhatIsLocal(t *testing.T) { // P17.1
	step := api.Want{Kind: api.EvStep}
	for name, i := range map[string]api.Ins{
		"const":          {Op: api.OpConst, A: 2, Imm: math.MaxUint32},
		"move":           {Op: api.OpMove, A: 1, B: 3},
		"jump ahead":     {Op: api.OpJump, Imm: 4},
		"jump back":      {Op: api.OpJump},
		"jump to itself": {Op: api.OpJump, Imm: 2},
		"if so":          {Op: api.OpIf, A: 0, Imm: 4},
		"if not":         {Op: api.OpIf, A: 1, Imm: 4},
		"call":           {Op: api.OpCall, A: 2, B: 1, C: 3, Imm: 1},
		"call of none":   {Op: api.OpCall, A: 3, B: 3},
		"return":         {Op: api.OpReturn, A: 2},
		"yield":          {Op: api.OpYield},
	} {
		each(t, name, i, step, 77, 7, 0, 5, 9)
	}
}

func TestWhatIsReckoned(t *testing.T) { // P17.1
	for k, name := range arith.Kinds() {
		for _, b := range []uint32{0, 1, 5, math.MaxUint32} {
			for _, c := range []uint32{0, 1, 2, 31, 32, 1 << 31, math.MaxUint32} {
				want := api.Want{Kind: api.EvStep}
				if (name == "div" || name == "mod") && c == 0 {
					want = api.Want{Kind: api.EvTrap, Trap: api.TrapZero}
				}
				i := api.Ins{Op: api.OpArith, A: 0, B: 1, C: 2, Imm: uint32(k)}
				each(t, name, i, want, 77, 7, b, c, 9)
				i = api.Ins{Op: api.OpArith, A: 2, B: 1, C: 2, Imm: uint32(k)}
				each(t, name+" onto itself", i, want, 77, 7, b, c, 9)
			}
		}
	}
}

func TestLoadsAndStores(t *testing.T) { // P17.1
	for _, a := range []uint32{0, 1, 4095, 4096, 1 << 31, math.MaxUint32} {
		for _, b := range []uint32{0, 1, 4096, 1<<31 - 1, 1 << 31, math.MaxUint32} {
			for _, word := range []uint32{0, 1, 1 << 31, math.MaxUint32} {
				each(t, "load", api.Ins{Op: api.OpLoad, A: 1, B: 2}, api.Want{Kind: api.EvLoad, Addr: b}, word, 7, a, b, 9)
				each(t, "load onto itself", api.Ins{Op: api.OpLoad, A: 2, B: 2}, api.Want{Kind: api.EvLoad, Addr: b}, word, 7, a, b, 9)
				each(t, "store", api.Ins{Op: api.OpStore, A: 1, B: 2}, api.Want{Kind: api.EvStore, Addr: a, Word: b}, word, 7, a, b, 9)
				each(t, "store of itself", api.Ins{Op: api.OpStore, A: 1, B: 1}, api.Want{Kind: api.EvStore, Addr: a, Word: a}, word, 7, a, b, 9)
			}
		}
	}
	// A load gets its word in its register, that of no other frame.
	f, _ := within(t, api.Ins{Op: api.OpLoad, A: 3, B: 0}, 2, 7, 8, 9, 10)
	does(t, f, 0)
	if e := f.Do(1 << 31); e != api.OK {
		t.Fatalf("Do: %v", e)
	}
	l := frames(f.Stack())
	if !slices.Equal(l[0].Regs, []uint32{7, 8, 9, 1 << 31}) || l[0].Pc != 3 || !slices.Equal(l[1].Regs, []uint32{7, 8, 9, 10}) || l[1].Pc != 1 {
		t.Errorf("%v", l)
	}
}

func TestSharedThings(t *testing.T) { // P17.1
	kinds := map[api.Op]api.EvKind{
		api.OpLock: api.EvLock, api.OpUnlock: api.EvUnlock, api.OpRLock: api.EvRLock, api.OpRUnlock: api.EvRUnlock,
		api.OpWLock: api.EvWLock, api.OpWUnlock: api.EvWUnlock, api.OpWait: api.EvWait,
	}
	// No shared thing has to be there: what is named is what the word is.
	for _, obj := range []uint32{0, 1, 63, 64, 65, 1 << 31, math.MaxUint32} {
		for op, kind := range kinds {
			each(t, fmt.Sprint("Op ", op), api.Ins{Op: op, A: 2}, api.Want{Kind: kind, Obj: obj}, 77, 7, 8, obj, 9)
		}
		for n, more := range map[uint32]int64{0: 0, 1: 1, 2: 2, 1<<31 - 1: 1<<31 - 1, 1 << 31: -1 << 31, 1<<31 + 1: -1<<31 + 1, math.MaxUint32 - 1: -2, math.MaxUint32: -1} {
			each(t, "count", api.Ins{Op: api.OpCount, A: 2, B: 0}, api.Want{Kind: api.EvCount, Obj: obj, N: more}, 77, n, 8, obj, 9)
		}
	}
	each(t, "count of itself", api.Ins{Op: api.OpCount, A: 3, B: 3}, api.Want{Kind: api.EvCount, Obj: math.MaxUint32, N: -1}, 77, 1, 2, 3, math.MaxUint32)
}

func TestWhatBegins(t *testing.T) { // P17.1
	words := []uint32{math.MaxUint32, 0, 5, 9}
	for b := range 4 {
		for c := range 4 - b + 1 {
			for _, f := range []int{0, 1} {
				i := api.Ins{Op: api.OpGo, B: b, C: c, Imm: uint32(f)}
				each(t, fmt.Sprint("go of ", b, c, f), i, api.Want{Kind: api.EvGo, Func: f, Args: words[b : b+c]}, 77, words...)
			}
		}
	}
	// As many words as there may be, and the last function that there may be.
	p := of(slices.Repeat([]api.Func{code(16, api.Ins{Op: api.OpGo, C: 16, Imm: 31}, api.Ins{Op: api.OpGo, B: 15, C: 1, Imm: 31}, back(0))}, 32)...)
	words = []uint32{1, 2, 3, 4, 5, 6, 7, 8, 9, 10, 11, 12, 13, 14, 15, 16}
	f := made(t, p, 1, 31, words...)
	if w, _ := f.Want(); w.Func != 31 || !slices.Equal(w.Args, words) {
		t.Errorf("%v", w)
	}
	does(t, f, 1)
	if w, _ := f.Want(); w.Func != 31 || !slices.Equal(w.Args, words[15:]) {
		t.Errorf("%v", w)
	}
}

func TestWordsThatWereToldAreOnesOwn(t *testing.T) { // P17.1
	f, m := within(t, api.Ins{Op: api.OpGo, B: 1, C: 2}, 2, 7, 8, 9, 10)
	a, _ := f.Want()
	b, _ := f.Want()
	a.Args[0], a.Args[1] = 1, 2
	a.Args = append(a.Args, 3)
	holds(t, f, m)
	if !slices.Equal(b.Args, []uint32{8, 9}) {
		t.Errorf("%v", b.Args)
	}
	does(t, f, 1)
	if !slices.Equal(b.Args, []uint32{8, 9}) {
		t.Errorf("%v", b.Args)
	}
}

func TestFramesThatAreAllowed(t *testing.T) { // P17.1, P17.4
	for _, allowed := range []int{1, 2, 3, 4, 255, 256} {
		// So many calls that just so many frames are needed: none is one too many.
		f := made(t, deep(), allowed, 0, uint32(allowed-1))
		deepest := 0
		for !f.Ended() {
			deepest = max(deepest, f.Stack().Depth())
			does(t, f, 1)
		}
		if deepest != allowed {
			t.Errorf("of %d: %d deep", allowed, deepest)
		}
		f = made(t, deep(), allowed, 0, uint32(allowed))
		many, e := f.Run(1 << 20)
		w, is := f.Want()
		if want := (api.Want{Kind: api.EvTrap, Site: api.Site{Pc: 4}, Trap: api.TrapStack}); e != api.OK || !is || !sameWant(w, want) {
			t.Errorf("of %d: %v, %v, %v", allowed, e, w, is)
		}
		if f.Stack().Depth() != allowed || many != 4*allowed-1 {
			t.Errorf("of %d: %d deep, behind %d", allowed, f.Stack().Depth(), many)
		}
		refused(t, "too deep", f, api.ErrTrapped)
	}
}

func TestTheEndIsThatOfTheLowestFrame(t *testing.T) { // P17.1, P17.4
	f := made(t, deep(), 9, 0, 3)
	for left := 4; left > 0; {
		w, is := f.Want()
		if w.Site.Pc == 1 || w.Site.Pc == 5 {
			if left = f.Stack().Depth(); (left == 1) != (w.Kind == api.EvEnd) || left > 1 && w.Kind != api.EvStep {
				t.Errorf("%v with %d frames", w, left)
			}
			left--
		}
		if !is || f.Ended() {
			t.Errorf("%v, %v", w, is)
		}
		does(t, f, 1)
	}
	if w, is := f.Want(); is || !sameWant(w, api.Want{}) || !f.Ended() {
		t.Errorf("at the end: %v, %v, %v", w, is, f.Ended())
	}
}

// refused holds that Do is refused, and changes nothing, whatever the word.
func refused(t *testing.T, name string, f *fiber.Fiber, want api.Errno) {
	t.Helper()
	s := f.Stack()
	w, is := f.Want()
	for _, word := range []uint32{0, 1, math.MaxUint32} {
		if e := f.Do(word); e != want {
			t.Errorf("%s: Do(%d): %v, not %v", name, word, e, want)
		}
		now, there := f.Want()
		if !stack.Same(f.Stack(), s) || !sameWant(w, now) || is != there {
			t.Errorf("%s: Do(%d) has changed something", name, word)
		}
	}
}

func TestDoRefuses(t *testing.T) { // P17.1, P17.4
	f := ended(t)
	refused(t, "at the end", f, api.ErrEnded)
	if f.Stack().Result() != 8 {
		t.Errorf("Result %d", f.Stack().Result())
	}
	for why, f := range trapped(t) {
		if w, is := f.Want(); !is || !sameWant(w, api.Want{Kind: api.EvTrap, Site: api.Site{Func: 1}, Trap: why}) {
			t.Errorf("trap %d: %v, %v", why, w, is)
		}
		refused(t, "at a trap", f, api.ErrTrapped)
	}
}

func TestWhatEachOpWantsIsWhatLayer8Says(t *testing.T) { // P17.1
	kinds := map[api.EvKind]int{}
	for op := api.OpConst; op <= api.OpYield; op++ {
		i := api.Ins{Op: op}
		if op == api.OpArith {
			i.Imm = uint32(api.ArithAdd)
		}
		f, _ := within(t, i, 9)
		w, is := f.Want()
		if kinds[w.Kind]++; !is || (w.Kind == api.EvStep) != instr.Local(i) {
			t.Errorf("%v: %v", i, w)
		}
	}
	if len(kinds) != 12 || kinds[api.EvStep] != len(local) {
		t.Errorf("%v", kinds)
	}
}

// act does something to a fiber and its model that a source draws, and holds the answers; it tells if a thing was done.
func act(t *testing.T, r *rand.Rand, f *fiber.Fiber, m *model) bool {
	t.Helper()
	if r.IntN(5) == 0 {
		most := r.IntN(6) - 1
		many, e := f.Run(most)
		if want, no := m.run(most); many != want || e != no {
			t.Fatalf("Run(%d): %d, %v, not %d, %v", most, many, e, want, no)
		}
		return many > 0
	}
	word := []uint32{0, 1, 2, 1 << 31, math.MaxUint32}[r.IntN(5)]
	e, no := f.Do(word), m.do(word)
	if e != no {
		t.Fatalf("Do(%d): %v, not %v", word, e, no)
	}
	return e == api.OK
}

func TestWhateverIsDone(t *testing.T) { // P17.1, P17.2, P17.3, P17.4
	r := rand.New(rand.NewPCG(17, 1))
	done, ends, traps := 0, 0, map[api.Trap]int{}
	for range 1500 {
		p := drawn(t, r)
		g, allowed := r.IntN(len(p.Funcs)), 1+r.IntN(5)
		args := []uint32{1, 2, 0, 3, math.MaxUint32}[:r.IntN(p.Funcs[g].Regs+1)]
		f, m := made(t, p, allowed, g, args...), modelled(p, allowed, g, args...)
		other, n := f.Copy(), m.copied()
		for turn := range 50 {
			holds(t, f, m)
			if turn%16 == 5 {
				other, n = f.Copy(), m.copied()
			}
			if most := r.IntN(12) - 1; !slices.EqualFunc(gone(t, -1, fiber.Ahead(f, most)), m.ahead(most), sameWant) {
				t.Fatalf("Ahead(%d), not %v", most, m.ahead(most))
			}
			if act(t, r, f, m) {
				done++
			}
		}
		switch w, is := m.want(); {
		case !is:
			ends++
		case w.Kind == api.EvTrap:
			traps[w.Trap]++
		}
		// One that was copied goes on from where it was.
		for range 20 {
			holds(t, other, n)
			act(t, r, other, n)
		}
		holds(t, f, m)
	}
	if done < 10000 || ends < 100 || traps[api.TrapZero] < 50 || traps[api.TrapStack] < 100 {
		t.Errorf("%d done, %d ended, trapped %v: it says too little", done, ends, traps)
	}
}

func TestTheSameWordsKeepThemTheSame(t *testing.T) { // P17.4
	r := rand.New(rand.NewPCG(17, 4))
	for range 300 {
		p := drawn(t, r)
		a := made(t, p, 4, 0)
		b := made(t, p, 4, 0)
		for range 40 {
			// Whatever one of them is asked between changes nothing.
			gone(t, r.IntN(5), fiber.Ahead(b, 9))
			b.Copy().Run(3)
			word := uint32(r.IntN(3))
			if e, no := a.Do(word), b.Do(word); e != no {
				t.Fatalf("Do(%d): %v, %v", word, e, no)
			}
			v, is := a.Want()
			w, there := b.Want()
			if !stack.Same(a.Stack(), b.Stack()) || !fiber.Same(v, w) || is != there || a.Ended() != b.Ended() {
				t.Fatalf("%v, %v of\n%v\n%v", v, w, frames(a.Stack()), frames(b.Stack()))
			}
		}
	}
}

func TestWhatIsWantedHangsOnTheStackAlone(t *testing.T) { // P17.4
	r := rand.New(rand.NewPCG(17, 5))
	met := 0
	for range 300 {
		p := drawn(t, r)
		wants := map[string]api.Want{}
		// Many ways by words of all kinds: where two come to one stack, one thing is wanted, and Do is refused to both or to none.
		for range 8 {
			f := made(t, p, 3, 0)
			for range 30 {
				w, is := f.Want()
				s := f.Stack()
				key := fmt.Sprint(frames(s), s.Result())
				old, seen := wants[key]
				if seen && !sameWant(old, w) {
					t.Fatalf("%s: %v, then %v", key, old, w)
				}
				if wants[key] = w; seen {
					met++
				}
				e := f.Do(uint32(r.IntN(2)))
				if (e == api.OK) != (is && w.Kind != api.EvTrap) || f.Ended() != (!is || w.Kind == api.EvEnd) {
					t.Fatalf("Do: %v, where %v, %v was wanted", e, w, is)
				}
			}
		}
	}
	if met < 10000 {
		t.Errorf("%d met: it says too little", met)
	}
}
