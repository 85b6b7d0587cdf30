package event

import (
	"linesman/api"
	"linesman/site"
)

// refusal is what is given up with.
type refusal api.Errno

// told tells the error of what was recovered. It is a refusal: anything else is no answer, and panics on.
func told(up any) api.Errno {
	return api.Errno(up.(refusal))
}

// hold gives up, unless the event may be; it tells the parts that its Kind names.
func hold(e api.Event) []part {
	parts, is := named()[e.Kind]
	if !is || !holds(e, parts...) {
		panic(refusal(api.ErrArg))
	}
	return parts
}

// holds tells if an event may be whose Kind names these parts.
func holds(e api.Event, parts ...part) bool {
	if !goroutine().may(e) || site.Check(e.Site) != api.OK {
		return false
	}
	rest := e
	for _, p := range parts {
		if !p.may(e) {
			return false
		}
		p.put(&rest, 0)
	}
	// What is not named is 0, so nothing but what every event has is left.
	return rest == api.Event{G: e.G, Kind: e.Kind, Site: e.Site}
}

// touches tells if it loads or stores.
func touches(e api.Event) bool {
	return e.Kind == api.EvLoad || e.Kind == api.EvStore
}

// turn is the Kinds of two events of one shared thing, the first of which leads to the other one.
type turn struct {
	first, second api.EvKind
}

// hands tells if events of a Kind that release a shared thing lead to those of another one.
func hands(first, second api.EvKind) bool {
	turns := map[turn]struct{}{
		{api.EvUnlock, api.EvLock}:   {},
		{api.EvWUnlock, api.EvRLock}: {},
		{api.EvWUnlock, api.EvWLock}: {},
		{api.EvRUnlock, api.EvWLock}: {},
		{api.EvCount, api.EvWait}:    {},
	}
	_, is := turns[turn{first, second}]
	return is
}
