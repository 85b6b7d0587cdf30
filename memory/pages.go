package memory

import (
	"cmp"
	"iter"
	"maps"
	"slices"

	"linesman/api"
)

// wordBytes is how many bytes an address has, and a word.
const wordBytes = 4

// page is the words of as many addresses that follow one another.
type page struct {
	words [api.PageSize]uint32
	// left is how many words are not 0: a page with none is given up, so that it makes no difference that it was there.
	left int
}

// store stores a word at a place of the page.
func (p *page) store(at, word uint32) {
	if p.words[at] != 0 {
		p.left--
	}
	if word != 0 {
		p.left++
	}
	p.words[at] = word
}

// same tells if another page has the same words.
func (p *page) same(other *page) bool {
	return p.words == other.words
}

// from goes over the words that are not 0, each with its place, from a place on.
func (p *page) from(first uint32) iter.Seq2[uint32, uint32] {
	return func(yield func(uint32, uint32) bool) {
		for at := first; at < api.PageSize; at++ {
			if word := p.words[at]; word != 0 && !yield(at, word) {
				return
			}
		}
	}
}

// pages are those that have words that are not 0, by their numbers.
type pages map[uint32]*page

// place tells on which page an address is, and at which of its places.
func place(addr uint32) (number, at uint32) {
	return addr / api.PageSize, addr % api.PageSize
}

// store stores a word at an address.
func (p pages) store(addr, word uint32) {
	number, at := place(addr)
	on := p[number]
	if on == nil && word == 0 {
		return
	}
	if on == nil {
		on = new(page)
		p[number] = on
	}
	on.store(at, word)
	if on.left == 0 {
		delete(p, number)
	}
}

// load tells the word at an address.
func (p pages) load(addr uint32) uint32 {
	number, at := place(addr)
	on := p[number]
	if on == nil {
		return 0
	}
	return on.words[at]
}

// many tells how many words are not 0.
func (p pages) many() int {
	n := 0
	for _, on := range p {
		n += on.left
	}
	return n
}

// numbers tells the numbers of all pages, rising.
func (p pages) numbers() []uint32 {
	return sorted(maps.Keys(p), func(a, b uint32) int { return cmp.Compare(a, b) })
}

// from goes over the words that are not 0, from an address on, by rising addresses.
func (p pages) from(addr uint32) iter.Seq2[uint32, uint32] {
	return func(yield func(uint32, uint32) bool) {
	words:
		for _, number := range p.numbers() {
			begins := number * api.PageSize
			for at, word := range p[number].from(passed(begins, addr)) {
				if !yield(begins+at, word) {
					break words
				}
			}
		}
	}
}

// passed tells how many places of a page, by its first address, are ahead of an address.
func passed(begins, addr uint32) uint32 {
	if addr < begins {
		return 0
	}
	return min(addr-begins, api.PageSize)
}

// tell writes each word that is not 0, behind its address.
func (p pages) tell(write func(n uint64, width int) api.Errno) {
	for addr, word := range p.from(0) {
		write(uint64(addr), wordBytes)
		write(uint64(word), wordBytes)
	}
}

// copied tells the same pages, in new memory.
func (p pages) copied() pages {
	other := make(pages, len(p))
	for number, on := range p {
		one := *on
		other[number] = &one
	}
	return other
}

// sorted gathers things in an order, which says how one of them stands to another one.
func sorted[T any](things iter.Seq[T], order func(a, b T) int) []T {
	return slices.SortedFunc(things, order)
}
