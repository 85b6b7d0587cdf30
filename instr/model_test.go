package instr_test

import (
	"math"
	"regexp"
	"strconv"
	"strings"

	"linesman/api"
)

// form is an Op, as the chapter's table says it.
type form struct {
	op   api.Op
	text string
}

// forms are all of them; a kind's name stands as kind.
var forms = []form{
	{1, "const rA Imm"},
	{2, "move rA rB"},
	{3, "kind rA rB rC"},
	{4, "jump Imm"},
	{5, "if rA Imm"},
	{6, "load rA rB"},
	{7, "store rA rB"},
	{8, "call rA rB C fImm"},
	{9, "return rA"},
	{10, "go rB C fImm"},
	{11, "lock rA"},
	{12, "unlock rA"},
	{13, "rlock rA"},
	{14, "runlock rA"},
	{15, "wlock rA"},
	{16, "wunlock rA"},
	{17, "count rA rB"},
	{18, "wait rA"},
	{19, "yield"},
}

// kinds are the names of what is reckoned, the first one that of 1.
var kinds = strings.Fields("add sub mul div mod and or xor shl shr less equal")

// words are those of a form behind its first one.
func (f form) words() []string {
	return strings.Fields(f.text)[1:]
}

// names tells if a form names one of A, B, C, Imm.
func (f form) names(part string) bool {
	if f.op == api.OpArith && part == "Imm" {
		return true
	}
	for _, w := range f.words() {
		if strings.TrimLeft(w, "rf") == part {
			return true
		}
	}
	return false
}

// formOf is that of an Op.
func formOf(op api.Op) (form, bool) {
	for _, f := range forms {
		if f.op == op {
			return f, true
		}
	}
	return form{}, false
}

// below tells if a number is from 0 on, and below a bound.
func below(n, bound int) bool {
	return n >= 0 && n < bound
}

// said tells if an instruction may be, as the chapter says it.
func said(i api.Ins) bool {
	f, is := formOf(i.Op)
	if !is {
		return false
	}
	counts := i.Op == api.OpCall || i.Op == api.OpGo
	if !below(i.A, 16) || !f.names("A") && i.A != 0 || !below(i.B, 16) || !f.names("B") && i.B != 0 {
		return false
	}
	if !below(i.C, 17) || !counts && !below(i.C, 16) || counts && i.B+i.C > 16 || !f.names("C") && i.C != 0 {
		return false
	}
	switch i.Op {
	case api.OpConst:
		return true
	case api.OpArith:
		return i.Imm >= 1 && i.Imm <= 12
	case api.OpJump, api.OpIf:
		return i.Imm < 512
	case api.OpCall, api.OpGo:
		return i.Imm < 32
	}
	return i.Imm == 0
}

// raw is an instruction's bytes, as the chapter says them; of one that may not be, too.
func raw(i api.Ins) []byte {
	b := []byte{byte(i.Op)}
	f, _ := formOf(i.Op)
	if f.text == "" {
		return b
	}
	if f.names("A") {
		b = append(b, byte(i.A))
	}
	if f.names("B") {
		b = append(b, byte(i.B))
	}
	if f.names("C") {
		b = append(b, byte(i.C))
	}
	if f.names("Imm") {
		b = append(b, byte(i.Imm), byte(i.Imm>>8), byte(i.Imm>>16), byte(i.Imm>>24))
	}
	return b
}

// text is an instruction's text, as the chapter says it; of one that may not be, too, but of an Op, or a kind, that is there.
func text(i api.Ins) string {
	f, _ := formOf(i.Op)
	words := strings.Fields(f.text)
	if words[0] == "kind" {
		words[0] = kinds[i.Imm-1]
	}
	for at, w := range words[1:] {
		w = strings.Replace(w, "A", strconv.Itoa(i.A), 1)
		w = strings.Replace(w, "B", strconv.Itoa(i.B), 1)
		w = strings.Replace(w, "C", strconv.Itoa(i.C), 1)
		words[at+1] = strings.Replace(w, "Imm", strconv.FormatUint(uint64(i.Imm), 10), 1)
	}
	return strings.Join(words, " ")
}

// patterns are those of the texts of all Ops, with their numbers in groups that are named.
func patterns() map[api.Op]*regexp.Regexp {
	all := map[api.Op]*regexp.Regexp{}
	for _, f := range forms {
		p := strings.Replace(f.text, "kind", "(?<kind>"+strings.Join(kinds, "|")+")", 1)
		for _, part := range []string{"A", "B", "C", "Imm"} {
			p = strings.Replace(p, part, "(?<"+part+">0|[1-9][0-9]{0,9})", 1)
		}
		all[f.op] = regexp.MustCompile(`\A` + p + `\z`)
	}
	return all
}

// parsed is the instruction of a text, by patterns.
func parsed(all map[api.Op]*regexp.Regexp, s string) (api.Ins, bool) {
	for op, p := range all {
		found := p.FindStringSubmatch(s)
		if found == nil {
			continue
		}
		i := api.Ins{Op: op}
		for at, part := range p.SubexpNames() {
			n, _ := strconv.Atoi(found[at])
			switch part {
			case "A":
				i.A = n
			case "B":
				i.B = n
			case "C":
				i.C = n
			case "Imm":
				i.Imm = uint32(n)
				if n > math.MaxUint32 {
					return api.Ins{}, false
				}
			case "kind":
				for k, name := range kinds {
					if name == found[at] {
						i.Imm = uint32(k + 1)
					}
				}
			}
		}
		return i, said(i)
	}
	return api.Ins{}, false
}

// read is what stands as the first bytes, as the chapter says it.
func read(b []byte) (api.Ins, int, api.Errno) {
	if len(b) == 0 {
		return api.Ins{}, 0, api.ErrEnds
	}
	f, is := formOf(api.Op(b[0]))
	if !is {
		return api.Ins{}, 0, api.ErrIns
	}
	i, many := api.Ins{Op: f.op}, 1
	for _, part := range []string{"A", "B", "C", "Imm"} {
		if !f.names(part) {
			continue
		}
		width := 1
		if part == "Imm" {
			width = 4
		}
		if len(b) < many+width {
			return api.Ins{}, 0, api.ErrEnds
		}
		switch part {
		case "A":
			i.A = int(b[many])
		case "B":
			i.B = int(b[many])
		case "C":
			i.C = int(b[many])
		default:
			i.Imm = uint32(b[many]) + uint32(b[many+1])<<8 + uint32(b[many+2])<<16 + uint32(b[many+3])<<24
		}
		many += width
	}
	if !said(i) {
		return api.Ins{}, 0, api.ErrIns
	}
	return i, many, api.OK
}

// grid is each Op with numbers at and about all edges, whether it may be or not.
func grid() []api.Ins {
	ops := []api.Op{math.MinInt, -256, -1, 0}
	for op := range 20 {
		ops = append(ops, api.Op(op+1))
	}
	ops = append(ops, 255, 256+19, 1<<32+1, math.MaxInt)
	imms := []uint32{0, 1, 12, 13, 31, 32, 511, 512, 1 << 31, math.MaxUint32}
	near := []int{-1, 0, 1, 8, 15, 16, 17}
	far := []int{math.MinInt, math.MinInt + 1, -1 << 32, -256, 255, 256, 1 << 32, 1<<32 + 1, math.MaxInt - 1, math.MaxInt}
	var l []api.Ins
	for _, op := range ops {
		for _, imm := range imms {
			for _, a := range near {
				for _, b := range near {
					for _, c := range near {
						l = append(l, api.Ins{Op: op, A: a, B: b, C: c, Imm: imm})
					}
				}
			}
			for _, n := range far {
				l = append(l, api.Ins{Op: op, A: n, Imm: imm}, api.Ins{Op: op, B: n, Imm: imm}, api.Ins{Op: op, C: n, Imm: imm}, api.Ins{Op: op, A: 1, B: n, C: n, Imm: imm})
			}
		}
	}
	return l
}

// some are instructions that may be: of each Op those with numbers at edges, and some within.
func some() []api.Ins {
	var l []api.Ins
	for _, f := range forms {
		as, bs, cs, imms := []int{0}, []int{0}, []int{0}, []uint32{0}
		if f.names("A") {
			as = []int{0, 1, 9, 10, 15}
		}
		if f.names("B") {
			bs = []int{0, 1, 2, 14, 15}
		}
		if f.names("C") {
			cs = []int{0, 1, 2, 10, 14, 15, 16}
		}
		if f.names("Imm") {
			imms = []uint32{0, 1, 2, 3, 4, 5, 6, 7, 8, 9, 10, 11, 12, 13, 31, 32, 255, 256, 511, 512, 65536, 1 << 24, 1<<31 - 1, 1 << 31, math.MaxUint32}
		}
		for _, a := range as {
			for _, b := range bs {
				for _, c := range cs {
					for _, imm := range imms {
						if i := (api.Ins{Op: f.op, A: a, B: b, C: c, Imm: imm}); said(i) {
							l = append(l, i)
						}
					}
				}
			}
		}
	}
	return l
}

// few is one instruction of each Op, with numbers that are unlike each other, where it names some.
func few() []api.Ins {
	return []api.Ins{
		{Op: 1, A: 11, Imm: 4023233417},
		{Op: 2, A: 12, B: 3},
		{Op: 3, A: 10, B: 15, C: 7, Imm: 12},
		{Op: 4, Imm: 510},
		{Op: 5, A: 1, Imm: 258},
		{Op: 6, A: 0, B: 14},
		{Op: 7, A: 14, B: 0},
		{Op: 8, A: 15, B: 2, C: 13, Imm: 31},
		{Op: 9, A: 10},
		{Op: 10, B: 10, C: 6, Imm: 20},
		{Op: 11, A: 5},
		{Op: 12, A: 6},
		{Op: 13, A: 7},
		{Op: 14, A: 8},
		{Op: 15, A: 9},
		{Op: 16, A: 10},
		{Op: 17, A: 11, B: 12},
		{Op: 18, A: 13},
		{Op: 19},
	}
}
