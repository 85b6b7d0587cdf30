package arith

import "linesman/api"

// wordBits is how many bits a word has.
const wordBits = 32

// word is a number of 32 bits that something is reckoned of.
type word uint32

// signed tells it as one with a sign.
func (w word) signed() int64 {
	return int64(int32(w))
}

// up tells it times 2 to the power of so many places; they go round at its width.
func (w word) up(places word) word {
	return w << (places % wordBits)
}

// down tells it by 2 to the power of so many places; they go round at its width.
func (w word) down(places word) word {
	return w >> (places % wordBits)
}

// pair is a word, and the one with which something is reckoned of it.
type pair struct {
	word
	by word
}

// dividesByZero tells if a kind would divide the one by the other one, which is 0.
func (p pair) dividesByZero(k api.Arith) bool {
	return p.by == 0 && (k == api.ArithDiv || k == api.ArithMod)
}

// reckonings tells what each kind makes of a pair; who calls one sees to it that it does not divide by 0.
func reckonings() map[api.Arith]func(pair) word {
	return map[api.Arith]func(pair) word{
		api.ArithAdd:   func(p pair) word { return p.word + p.by },
		api.ArithSub:   func(p pair) word { return p.word - p.by },
		api.ArithMul:   func(p pair) word { return p.word * p.by },
		api.ArithDiv:   func(p pair) word { return p.word / p.by },
		api.ArithMod:   func(p pair) word { return p.word % p.by },
		api.ArithAnd:   func(p pair) word { return p.word & p.by },
		api.ArithOr:    func(p pair) word { return p.word | p.by },
		api.ArithXor:   func(p pair) word { return p.word ^ p.by },
		api.ArithShl:   func(p pair) word { return p.up(p.by) },
		api.ArithShr:   func(p pair) word { return p.down(p.by) },
		api.ArithLess:  func(p pair) word { return truth(p.word < p.by) },
		api.ArithEqual: func(p pair) word { return truth(p.word == p.by) },
	}
}

// truth tells 1 of what is so, and 0 of what is not.
func truth(is bool) word {
	if is {
		return 1
	}
	return 0
}

// fold takes things into what there is so far, the first one first, until one is refused; it tells how many were taken.
func fold[T any](so T, things []T, take func(so, thing T) (T, api.Errno)) (T, int, api.Errno) {
	for many, thing := range things {
		next, why := take(so, thing)
		if why != api.OK {
			return so, many, why
		}
		so = next
	}
	return so, len(things), api.OK
}
