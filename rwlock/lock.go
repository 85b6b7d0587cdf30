package rwlock

import "slices"

// lock is who came to one and has not left: readers, or a writer. One that is not there is nil, and has neither.
type lock struct {
	readers []int
	writer  int
	written bool
}

// hasReaders tells if a reader has it.
func (o *lock) hasReaders() bool {
	return o != nil && len(o.readers) > 0
}

// hasWriter tells if a writer has it.
func (o *lock) hasWriter() bool {
	return o != nil && o.written
}

// allReaders tells the readers, in new memory.
func (o *lock) allReaders() []int {
	if !o.hasReaders() {
		return nil
	}
	return slices.Clone(o.readers)
}

// read lets a goroutine come as a reader.
func (o *lock) read(by int) {
	o.readers = append(o.readers, by)
}

// unread lets a goroutine leave as a reader, where there are some, and tells who went.
func (o *lock) unread(by int) int {
	at := found(o.readers, func(who int) bool { return who == by })
	who := o.readers[at]
	// Those ahead move up, not those behind: that takes no longer than it took to find who leaves, however many there are.
	copy(o.readers[1:at+1], o.readers[:at])
	o.readers = o.readers[1:]
	return who
}

// write lets a goroutine come as the writer.
func (o *lock) write(by int) {
	o.writer, o.written = by, true
}

// unwrite lets the writer leave, and tells who it was.
func (o *lock) unwrite() int {
	who := o.writer
	o.writer, o.written = 0, false
	return who
}

// alike tells if two have the same readers in the same order, and the same writer.
func alike(a, b lock) bool {
	return a.written == b.written && a.writer == b.writer && slices.Equal(a.readers, b.readers)
}

// found is the place of the first thing that is such, or that of the first of all, if none is.
func found[T any](things []T, is func(T) bool) int {
	for at, one := range things {
		if is(one) {
			return at
		}
	}
	return 0
}
