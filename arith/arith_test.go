package arith_test

import (
	"iter"
	"math"
	"math/big"
	"slices"
	"strings"
	"testing"

	"linesman/api"
	"linesman/arith"
)

const (
	most = math.MaxUint32
	half = uint32(1) << 31
)

// all are the kinds, by the chapter, each with its name.
var all = []kind{
	{1, "add"}, {2, "sub"}, {3, "mul"}, {4, "div"}, {5, "mod"}, {6, "and"},
	{7, "or"}, {8, "xor"}, {9, "shl"}, {10, "shr"}, {11, "less"}, {12, "equal"},
}

// kind is what a walk over kinds tells once.
type kind struct {
	k    api.Arith
	name string
}

// noKinds are kinds that are none.
func noKinds() []api.Arith {
	return []api.Arith{0, -1, -2, -12, 13, 14, 15, 16, 24, 25, 1 << 8, 1<<8 + 1, 1 << 16, 1<<32 + 1, 1<<32 + 4, math.MinInt, math.MinInt + 4, math.MaxInt}
}

// words are the edges, each bit, and what has no order that is seen.
func words() []uint32 {
	l := []uint32{0, 1, 2, 3, 5, 7, 10, 31, 32, 33, 63, 64, 65, 65535, 65536, 65537, half - 2, half - 1, half, half + 1, half + 32, most - 32, most - 31, most - 2, most - 1, most}
	n := uint64(1)
	for bit := range 32 {
		n = n*6364136223846793005 + 1442695040888963407
		l = append(l, 1<<bit, most-1<<bit, uint32(n>>32), uint32(n>>32)>>(bit%31))
	}
	return l
}

// said is what is reckoned, as the chapter says it, in numbers of any size.
func said(k api.Arith, a, b uint32) (uint32, api.Errno) {
	x, y, n := big.NewInt(int64(a)), big.NewInt(int64(b)), new(big.Int)
	power := new(big.Int).Exp(big.NewInt(2), big.NewInt(int64(b%32)), nil)
	if (k == 4 || k == 5) && b == 0 {
		return 0, api.ErrZero
	}
	switch k {
	case 1:
		n.Add(x, y)
	case 2:
		n.Sub(x, y)
	case 3:
		n.Mul(x, y)
	case 4:
		n.Div(x, y)
	case 5:
		n.Mod(x, y)
	case 6:
		n.And(x, y)
	case 7:
		n.Or(x, y)
	case 8:
		n.Xor(x, y)
	case 9:
		n.Mul(x, power)
	case 10:
		n.Div(x, power)
	case 11:
		n.SetInt64(holds(x.Cmp(y) < 0))
	case 12:
		n.SetInt64(holds(x.Cmp(y) == 0))
	}
	return uint32(n.Mod(n, big.NewInt(1<<32)).Uint64()), api.OK
}

// holds is 1 of what is so, else 0.
func holds(is bool) int64 {
	if is {
		return 1
	}
	return 0
}

// do is what is reckoned where nothing may be refused.
func do(t *testing.T, k api.Arith, a, b uint32) uint32 {
	t.Helper()
	n, why := arith.Do(k, a, b)
	if why != api.OK {
		t.Fatalf("Do(%d, %d, %d): %v", k, a, b, why)
	}
	return n
}

// first are the first few kinds of a walk.
func first(many int, s iter.Seq2[api.Arith, string]) []kind {
	var l []kind
	if many == 0 {
		return l
	}
	for k, name := range s {
		l = append(l, kind{k, name})
		if len(l) == many {
			break
		}
	}
	return l
}

func TestDo(t *testing.T) { // P5.1
	for _, c := range []struct {
		k    api.Arith
		a, b uint32
		want uint32
	}{
		{api.ArithAdd, most, 2, 1}, {api.ArithAdd, 2, 3, 5}, {api.ArithAdd, half, half, 0}, {api.ArithAdd, half - 1, 1, half}, {api.ArithAdd, most, most, most - 1}, {api.ArithAdd, 0, 0, 0},
		{api.ArithSub, 1, 2, most}, {api.ArithSub, 7, 3, 4}, {api.ArithSub, 0, 1, most}, {api.ArithSub, 0, most, 1}, {api.ArithSub, half - 1, half, most}, {api.ArithSub, most, most, 0},
		{api.ArithMul, 65536, 65537, 65536}, {api.ArithMul, 6, 7, 42}, {api.ArithMul, 65536, 65536, 0}, {api.ArithMul, most, most, 1}, {api.ArithMul, half, 2, 0}, {api.ArithMul, half, 3, half}, {api.ArithMul, most, 0, 0},
		{api.ArithDiv, 7, 2, 3}, {api.ArithDiv, 7, 1, 7}, {api.ArithDiv, most, 1, most}, {api.ArithDiv, most, 2, half - 1}, {api.ArithDiv, half, most, 0}, {api.ArithDiv, most, half, 1}, {api.ArithDiv, most, most, 1}, {api.ArithDiv, 0, 5, 0},
		{api.ArithMod, 7, 2, 1}, {api.ArithMod, 7, 1, 0}, {api.ArithMod, most, 1, 0}, {api.ArithMod, most, half, half - 1}, {api.ArithMod, half, most, half}, {api.ArithMod, most, 10, 5}, {api.ArithMod, 0, 5, 0},
		{api.ArithAnd, 12, 10, 8}, {api.ArithAnd, most, half, half}, {api.ArithAnd, 0xf0f0f0f0, 0xff00ff00, 0xf000f000},
		{api.ArithOr, 12, 10, 14}, {api.ArithOr, half - 1, half, most}, {api.ArithOr, 0xf0f0f0f0, 0xff00ff00, 0xfff0fff0},
		{api.ArithXor, 12, 10, 6}, {api.ArithXor, most, half, half - 1}, {api.ArithXor, 0xf0f0f0f0, 0xff00ff00, 0x0ff00ff0},
		{api.ArithShl, 3, 33, 6}, {api.ArithShl, 3, 0, 3}, {api.ArithShl, 3, 31, half}, {api.ArithShl, 3, 32, 3}, {api.ArithShl, 3, most, half}, {api.ArithShl, most, 1, most - 1}, {api.ArithShl, 2, 31, 0}, {api.ArithShl, 1, 1 << 16, 1},
		{api.ArithShr, 8, 2, 2}, {api.ArithShr, half, 0, half}, {api.ArithShr, half, 31, 1}, {api.ArithShr, half, 32, half}, {api.ArithShr, half, 33, half >> 1}, {api.ArithShr, most, most, 1}, {api.ArithShr, 7, 1, 3}, {api.ArithShr, half - 1, 31, 0},
		{api.ArithLess, 1, 2, 1}, {api.ArithLess, 2, 1, 0}, {api.ArithLess, 2, 2, 0}, {api.ArithLess, half - 1, half, 1}, {api.ArithLess, half, half - 1, 0}, {api.ArithLess, 0, most, 1}, {api.ArithLess, most, 0, 0}, {api.ArithLess, half, most, 1}, {api.ArithLess, most, most, 0},
		{api.ArithEqual, 2, 2, 1}, {api.ArithEqual, 2, 1, 0}, {api.ArithEqual, 0, 0, 1}, {api.ArithEqual, half, half, 1}, {api.ArithEqual, half, 0, 0}, {api.ArithEqual, most, most, 1}, {api.ArithEqual, most, most - 1, 0},
	} {
		if n, why := arith.Do(c.k, c.a, c.b); n != c.want || why != api.OK {
			t.Errorf("Do(%d, %d, %d) = %d, %v, not %d", c.k, c.a, c.b, n, why, c.want)
		}
	}
}

func TestDoIsWhatTheChapterSays(t *testing.T) { // P5.1
	for _, a := range words() {
		for _, b := range words() {
			for _, one := range all {
				want, no := said(one.k, a, b)
				if n, why := arith.Do(one.k, a, b); n != want || why != no {
					t.Fatalf("%s of %d, %d = %d, %v, not %d, %v", one.name, a, b, n, why, want, no)
				}
			}
		}
	}
}

func TestDoRefuses(t *testing.T) { // P5.1
	for _, a := range words() {
		for _, k := range []api.Arith{api.ArithDiv, api.ArithMod} {
			if n, why := arith.Do(k, a, 0); n != 0 || why != api.ErrZero {
				t.Errorf("Do(%d, %d, 0) = %d, %v", k, a, n, why)
			}
		}
		for _, k := range noKinds() {
			for _, b := range []uint32{0, 1, 2, half, most} { // a kind that is none is told ahead of a division by 0
				if n, why := arith.Do(k, a, b); n != 0 || why != api.ErrArg {
					t.Errorf("Do(%d, %d, %d) = %d, %v", k, a, b, n, why)
				}
			}
		}
	}
}

func TestFold(t *testing.T) { // P5.1
	for _, c := range []struct {
		k    api.Arith
		a    uint32
		l    []uint32
		want uint32
		many int
		why  api.Errno
	}{
		{api.ArithDiv, 100, []uint32{5, 0, 2}, 20, 1, api.ErrZero},
		{api.ArithDiv, 100, []uint32{0, 5, 2}, 100, 0, api.ErrZero},
		{api.ArithDiv, 100, []uint32{5, 2, 0}, 10, 2, api.ErrZero},
		{api.ArithDiv, 100, []uint32{0}, 100, 0, api.ErrZero},
		{api.ArithDiv, 100, []uint32{0, 0, 0}, 100, 0, api.ErrZero},
		{api.ArithDiv, 100, []uint32{5, 2, 3}, 3, 3, api.OK},
		{api.ArithDiv, 0, []uint32{0}, 0, 0, api.ErrZero},
		{api.ArithDiv, 3, []uint32{7, 5, 0}, 0, 2, api.ErrZero},
		{api.ArithMod, 100, []uint32{60, 0, 7}, 40, 1, api.ErrZero},
		{api.ArithMod, 100, []uint32{0, 60, 7}, 100, 0, api.ErrZero},
		{api.ArithMod, 100, []uint32{60, 7, 0}, 5, 2, api.ErrZero},
		{api.ArithMod, 100, []uint32{60, 7}, 5, 2, api.OK},
		{api.ArithMod, most, []uint32{0}, most, 0, api.ErrZero},
		{api.ArithAdd, most, []uint32{1, 1, most}, 0, 3, api.OK},
		{api.ArithAdd, 1, []uint32{0, 0}, 1, 2, api.OK},
		{api.ArithSub, 1, []uint32{2, 3}, most - 3, 2, api.OK},
		{api.ArithMul, 3, []uint32{5, 0, 7}, 0, 3, api.OK},
		{api.ArithMul, 3, []uint32{5, 7}, 105, 2, api.OK},
		{api.ArithAnd, most, []uint32{12, 10}, 8, 2, api.OK},
		{api.ArithOr, 1, []uint32{2, 4, 0}, 7, 3, api.OK},
		{api.ArithXor, 5, []uint32{3, 3, 5}, 0, 3, api.OK},
		{api.ArithShl, 1, []uint32{31, 1}, 0, 2, api.OK},
		{api.ArithShl, 3, []uint32{33, 32}, 6, 2, api.OK},
		{api.ArithShr, half, []uint32{31, 32, 0}, 1, 3, api.OK},
		{api.ArithLess, 5, []uint32{9, 2, 1}, 0, 3, api.OK},
		{api.ArithLess, 5, []uint32{9}, 1, 1, api.OK},
		{api.ArithEqual, 5, []uint32{5, 1, 1}, 1, 3, api.OK},
		{api.ArithEqual, 5, []uint32{5, 5}, 0, 2, api.OK},
	} {
		if n, many, why := arith.Fold(c.k, c.a, c.l...); n != c.want || many != c.many || why != c.why {
			t.Errorf("Fold(%d, %d, %d) = %d, %d, %v", c.k, c.a, c.l, n, many, why)
		}
	}
}

func TestFoldOfNoList(t *testing.T) { // P5.1
	for _, one := range all {
		for _, a := range words() {
			n, many, why := arith.Fold(one.k, a)
			m, few, no := arith.Fold(one.k, a, []uint32{}...)
			if n != a || many != 0 || why != api.OK || m != a || few != 0 || no != api.OK {
				t.Errorf("Fold(%d, %d) = %d, %d, %v; of an empty list %d, %d, %v", one.k, a, n, many, why, m, few, no)
			}
		}
	}
}

func TestFoldIsDoByDo(t *testing.T) { // P5.1
	w := words()
	for begin := range w {
		for many := range 8 {
			l := slices.Concat(w[begin:], w)[:many]
			for _, one := range all {
				so, taken, no := w[begin]/3+half, 0, api.OK
				for _, b := range l {
					var n uint32
					if n, no = said(one.k, so, b); no != api.OK {
						break
					}
					so, taken = n, taken+1
				}
				if n, m, why := arith.Fold(one.k, w[begin]/3+half, l...); n != so || m != taken || why != no {
					t.Fatalf("Fold(%d, %d, %d) = %d, %d, %v, not %d, %d, %v", one.k, w[begin]/3+half, l, n, m, why, so, taken, no)
				}
			}
		}
	}
}

func TestFoldOfALongList(t *testing.T) { // P5.1
	l := make([]uint32, 1<<20)
	for i := range l {
		l[i] = uint32(i) + 1
	}
	if n, many, why := arith.Fold(api.ArithAdd, 5, l...); n != 1<<19+5 || many != len(l) || why != api.OK {
		t.Errorf("%d, %d, %v", n, many, why)
	}
	l[len(l)-1] = 0
	if n, many, why := arith.Fold(api.ArithMod, 0, l...); n != 0 || many != len(l)-1 || why != api.ErrZero {
		t.Errorf("%d, %d, %v", n, many, why)
	}
}

func TestFoldRefuses(t *testing.T) { // P5.1
	for _, k := range noKinds() {
		for _, a := range []uint32{0, 1, 7, half, most} {
			for _, l := range [][]uint32{nil, {}, {1}, {0}, {2, 3}, {0, 0}, {5, 0, 2}} {
				if n, many, why := arith.Fold(k, a, l...); n != 0 || many != 0 || why != api.ErrArg {
					t.Errorf("Fold(%d, %d, %d) = %d, %d, %v", k, a, l, n, many, why)
				}
			}
		}
	}
}

func TestFoldLeavesItsList(t *testing.T) { // P5.1
	room := []uint32{100, 7, 3, 0, 2, 9, 8}
	kept := slices.Clone(room)
	for many := range len(room) {
		for k := api.Arith(-1); k < 15; k++ {
			arith.Fold(k, 1000, room[:many]...)
			if !slices.Equal(room, kept) {
				t.Fatalf("Fold of kind %d, %d: %d", k, many, room)
			}
		}
	}
}

func TestSigned(t *testing.T) { // P5.2
	for _, c := range []struct {
		n    uint32
		want int64
	}{
		{0, 0}, {1, 1}, {2, 2}, {half - 2, 1<<31 - 2}, {half - 1, 1<<31 - 1}, {half, -1 << 31}, {half + 1, -1<<31 + 1}, {most - 1, -2}, {most, -1},
	} {
		if n := arith.Signed(c.n); n != c.want {
			t.Errorf("Signed(%d) = %d", c.n, n)
		}
	}
	for _, n := range words() {
		want := int64(n)
		if n >= half {
			want -= 1 << 32
		}
		if got := arith.Signed(n); got != want {
			t.Errorf("Signed(%d) = %d, not %d", n, got, want)
		}
	}
}

func TestName(t *testing.T) { // P5.2
	for _, one := range all {
		if s, why := arith.Name(one.k); s != one.name || why != api.OK {
			t.Errorf("Name(%d) = %q, %v", one.k, s, why)
		}
	}
	for _, k := range noKinds() {
		if s, why := arith.Name(k); s != "" || why != api.ErrArg {
			t.Errorf("Name(%d) = %q, %v", k, s, why)
		}
	}
}

func TestParse(t *testing.T) { // P5.2, P5.3
	for _, one := range all {
		if k, why := arith.Parse(one.name); k != one.k || why != api.OK {
			t.Errorf("Parse(%q) = %d, %v", one.name, k, why)
		}
		s, _ := arith.Name(one.k)
		if k, why := arith.Parse(s); k != one.k || why != api.OK {
			t.Errorf("Parse(Name(%d)) = %d, %v", one.k, k, why)
		}
	}
}

// noNames are texts that may be taken for names.
func noNames() []string {
	l := []string{
		"", " ", "  ", "\n", "\x00", "none", "not", "neg", "greater", "equals", "lesser", "subtract", "plus", "sum", "rem", "sar",
		"0", "1", "4", "12", "13", "+", "-", "*", "/", "%", "&", "|", "^", "<<", ">>", "<", "=", "==",
		"add sub", "addsub", "add,sub", "lessequal", "less equal", "a d d", "ArithAdd",
		"\xff", "\xffadd", "add\xff", "ad\xe4", "\uff41\uff44\uff44", "add\u0301", "\u0430dd", "\ufeffadd", "mul\u0000",
		strings.Repeat("add", 9999), strings.Repeat(" ", 99999) + "add", "equal" + strings.Repeat("\x00", 999),
	}
	for _, one := range all {
		s := one.name
		l = append(l, strings.ToUpper(s), strings.ToUpper(s[:1])+s[1:], s[:1]+strings.ToUpper(s[1:]))
		l = append(l, " "+s, s+" ", " "+s+" ", s[:1]+" "+s[1:], "\t"+s, s+"\n", s+"\r\n", s+"\x00", "\x00"+s)
		l = append(l, s+s, s+"s", s+"0", s+s[len(s)-1:], s[:1]+s, "_"+s)
		for many := range len(s) {
			l = append(l, s[:many], s[many+1:], s[:many]+s[many+1:])
		}
	}
	return slices.DeleteFunc(l, isName) // xor without its x is or
}

// isName tells if a text is a name.
func isName(s string) bool {
	return slices.ContainsFunc(all, func(one kind) bool { return one.name == s })
}

func TestParseRefuses(t *testing.T) { // P5.2
	refused := func(s string) {
		if k, why := arith.Parse(s); k != 0 || why != api.ErrNone {
			t.Errorf("Parse(%.40q) = %d, %v", s, k, why)
		}
	}
	for _, s := range noNames() {
		refused(s)
	}
	for _, one := range all { // each byte of each name is another one
		for i := range one.name {
			for other := range 256 {
				s := one.name[:i] + string([]byte{byte(other)}) + one.name[i+1:]
				if !isName(s) {
					refused(s)
				}
			}
		}
	}
}

func TestParseTakesNoOtherText(t *testing.T) { // P5.2
	l, taken := []string{""}, 0
	for range 3 {
		var longer []string
		for _, s := range l {
			for letter := byte('a'); letter <= 'z'; letter++ {
				longer = append(longer, s+string([]byte{letter}))
			}
		}
		for _, s := range longer {
			k, why := arith.Parse(s)
			if isName(s) != (why == api.OK) || isName(s) != (k != 0) {
				t.Errorf("Parse(%q) = %d, %v", s, k, why)
			}
			taken += int(holds(why == api.OK))
		}
		l = longer
	}
	if taken != 10 {
		t.Errorf("%d of up to three letters are taken, not 10", taken)
	}
}

func TestKinds(t *testing.T) { // P5.2
	if got := first(99, arith.Kinds()); !slices.Equal(got, all) {
		t.Errorf("%v", got)
	}
	for k, name := range arith.Kinds() {
		if s, why := arith.Name(k); s != name || why != api.OK {
			t.Errorf("%d, %q: Name tells %q, %v", k, name, s, why)
		}
		if n, why := arith.Do(k, 1, 1); why != api.OK {
			t.Errorf("Do(%d, 1, 1) = %d, %v", k, n, why)
		}
	}
}

func TestKindsIsLeftAndGoneOverAgain(t *testing.T) { // P5.2
	s := arith.Kinds()
	for stop := range len(all) + 1 {
		if got := first(stop, s); !slices.Equal(got, all[:stop]) {
			t.Errorf("left behind %d: %v", stop, got)
		}
		if got := first(99, s); !slices.Equal(got, all) {
			t.Errorf("behind one that was left behind %d: %v", stop, got)
		}
	}
	many := 0
	for range s {
		many += len(first(99, s))
	}
	if many != len(all)*len(all) {
		t.Errorf("one in another: %d", many)
	}
}

func TestKindsGoesNoFurtherOnceItIsLeft(t *testing.T) { // P5.2
	for stop := 1; stop <= len(all); stop++ {
		told := 0
		arith.Kinds()(func(api.Arith, string) bool {
			told++
			return told < stop
		})
		if told != stop {
			t.Errorf("left behind %d, and %d were told", stop, told)
		}
	}
}

func TestLawsOfTwo(t *testing.T) { // P5.3
	for _, a := range words() {
		for _, b := range words() {
			if n := do(t, api.ArithSub, do(t, api.ArithAdd, a, b), b); n != a {
				t.Errorf("sub of add of %d, %d: %d", a, b, n)
			}
			if n := do(t, api.ArithAdd, do(t, api.ArithSub, a, b), b); n != a {
				t.Errorf("add of sub of %d, %d: %d", a, b, n)
			}
			if n := do(t, api.ArithXor, do(t, api.ArithXor, a, b), b); n != a {
				t.Errorf("xor twice of %d, %d: %d", a, b, n)
			}
			if b != 0 {
				left := do(t, api.ArithMod, a, b)
				if n := do(t, api.ArithAdd, do(t, api.ArithMul, do(t, api.ArithDiv, a, b), b), left); n != a || left >= b {
					t.Errorf("div times, and mod, of %d, %d: %d; %d is left", a, b, n, left)
				}
			}
			if up := do(t, api.ArithShl, a, b); uint64(a)<<(b%32) <= most {
				if n := do(t, api.ArithShr, up, b); n != a {
					t.Errorf("shr of shl of %d, %d: %d", a, b, n)
				}
			}
		}
		if n := do(t, api.ArithXor, a, a); n != 0 {
			t.Errorf("xor of %d, %d: %d", a, a, n)
		}
	}
}

func TestLessIsAnOrder(t *testing.T) { // P5.3
	w := words()
	slices.Sort(w)
	w = slices.Compact(w)
	for i, a := range w {
		for j, b := range w { // rising, so all that lie between are in order, too
			less, same := do(t, api.ArithLess, a, b), do(t, api.ArithEqual, a, b)
			if less != uint32(holds(i < j)) || same != uint32(holds(i == j)) {
				t.Errorf("%d, %d: less %d, equal %d", a, b, less, same)
			}
			if more := do(t, api.ArithLess, b, a); less+same+more != 1 {
				t.Errorf("%d, %d: less %d, equal %d, greater %d", a, b, less, same, more)
			}
		}
	}
}
