package digest

// laid is what comes onto a sum's bits when a 1 goes out at their lowest end.
const laid = 0xc96c5795d7870f42

// table tells, for each byte, what eight bits come to that go out as it.
type table [256]uint64

// fill works out what each byte comes to.
func (t *table) fill() {
	for i := range t {
		bits := uint64(i)
		for range 8 {
			bits = down(bits)
		}
		t[i] = bits
	}
}

// filled tells if fill was called: no byte but 0 comes to nothing.
func (t *table) filled() bool {
	return t[1] != 0
}

// step takes a byte into a sum's bits.
func (t *table) step(bits uint64, one byte) uint64 {
	return t[byte(bits)^one] ^ bits>>8
}

// list takes all bytes of a list into a sum's bits.
func (t *table) list(bits uint64, b []byte) uint64 {
	return fold(bits, b, t.step)
}

// down lets all bits go one place down.
func down(bits uint64) uint64 {
	if bits&1 == 1 {
		return bits>>1 ^ laid
	}
	return bits >> 1
}

// fold takes things into a sum's bits, the first one first.
func fold[T any](bits uint64, things []T, take func(uint64, T) uint64) uint64 {
	for _, thing := range things {
		bits = take(bits, thing)
	}
	return bits
}
