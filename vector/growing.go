package vector

import "linesman/api"

// growing is a vector under way, in memory of its own. It is trimmed at all times: it grows no further than to a clock that is not 0.
type growing struct {
	list
}

// take joins a list to it.
func (g *growing) take(l list) *growing {
	g.reach(l.trimmed())
	for id, clock := range l.clocks() {
		g.raise(id, clock)
	}
	return g
}

// raise lets a goroutine's clock stand no lower than this one.
func (g *growing) raise(id int, clock uint64) *growing {
	if !g.covers(id, clock) {
		g.reach(id + 1)
		g.list[id] = clock
	}
	return g
}

// reach makes room for so many clocks; who calls it sees to it that the last one is not left 0.
func (g *growing) reach(many int) {
	if missing := many - len(g.list); missing > 0 {
		g.list = append(g.list, make(list, missing)...)
	}
}

// told hands it out.
func (g *growing) told() api.Clock {
	return api.Clock(g.list)
}

// fold takes things into what there is so far, the first one first.
func fold[S, T any](so S, things []T, take func(S, T) S) S {
	for _, thing := range things {
		so = take(so, thing)
	}
	return so
}
