package rwlock

import (
	"iter"
	"slices"

	"linesman/api"
)

// list is so many locks, by their numbers.
type list struct {
	locks [api.MaxObjects]lock
	many  int
}

// all are those that are there: the room behind them is cut off.
func (l *list) all() []lock {
	return l.locks[:l.many:l.many]
}

// rising goes over those that have readers, or a writer, by rising numbers, each with whether it is a writer.
func (l *list) rising() iter.Seq2[int, bool] {
	return func(yield func(int, bool) bool) {
		for i := range l.all() {
			one := &l.locks[i]
			if !one.hasReaders() && !one.hasWriter() {
				continue
			}
			if !yield(i, one.hasWriter()) {
				return
			}
		}
	}
}

// copied tells the same locks, in new memory.
func (l *list) copied() *list {
	other := *l
	for i := range other.all() {
		other.locks[i].readers = l.locks[i].allReaders()
	}
	return &other
}

// same tells if others are as many, and each is alike.
func (l *list) same(other *list) bool {
	return slices.EqualFunc(l.all(), other.all(), alike)
}
