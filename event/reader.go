package event

import (
	"iter"

	"linesman/api"
	"linesman/octet"
	"linesman/site"
)

const (
	kindWidth = 1
	siteWidth = 3
)

// raw is bytes in which events stand.
type raw []byte

// from tells what stands from a place on.
func (b raw) from(at int) []byte {
	return b[at:]
}

// events goes over those that stand one behind the other, each with where it begins, as long as there are some.
func (b raw) events() iter.Seq2[int, api.Event] {
	return func(yield func(int, api.Event) bool) {
		at := 0
		for {
			e, many, no := Read(b.from(at))
			if no != api.OK || !yield(at, e) {
				return
			}
			at += many
		}
	}
}

// reader goes over bytes from their beginning on.
type reader struct {
	raw
	// at is how many it has taken.
	at int
	// wrong is whether something that it took is none.
	wrong bool
}

// read takes the thing with which begins what is left. It gives up where the bytes end; whatever else is wrong with it is told later, as the bytes may end behind it, too, and that goes ahead.
func read[T any](r *reader, width int, one func(left []byte) (T, api.Errno)) T {
	thing, why := one(r.from(r.at))
	if why == api.ErrEnds {
		panic(refusal(why))
	}
	r.wrong = r.wrong || why != api.OK
	r.at += width
	return thing
}

// number takes one of a width.
func (r *reader) number(width int) int64 {
	n := read(r, width, func(left []byte) (uint64, api.Errno) {
		return octet.ReadFixed(left, width)
	})
	return int64(n)
}

// fill takes parts of an event.
func (r *reader) fill(e *api.Event, parts ...part) {
	for _, p := range parts {
		p.put(e, r.number(p.width))
	}
}

// event takes one; it gives up if there is none.
func (r *reader) event() api.Event {
	e := api.Event{Kind: api.EvKind(r.number(kindWidth))}
	parts, is := named()[e.Kind]
	if !is {
		panic(refusal(api.ErrEvent))
	}
	r.fill(&e, goroutine())
	e.Site = read(r, siteWidth, site.Read)
	r.fill(&e, parts...)
	if r.wrong || !holds(e, parts...) {
		panic(refusal(api.ErrEvent))
	}
	return e
}
