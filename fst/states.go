package fst

import "wordbook/api"

// A stateSet tells which states belong to a set. Unlike a list, it can be the key of a map.
type stateSet [api.MaxStates]bool

// reached returns the set of some states and of all those to which arcs lead from them, by any number of steps. The arcs are given for each state.
func reached(states []int, from [][]api.Arc) stateSet {
	var set stateSet
	var todo []int
	add := func(state int) {
		if !set[state] {
			set[state] = true
			todo = append(todo, state)
		}
	}
	for _, state := range states {
		add(state)
	}
	for len(todo) > 0 {
		last := todo[len(todo)-1]
		todo = todo[:len(todo)-1]
		for _, a := range from[last] {
			add(a.To)
		}
	}
	return set
}

// grouped divides arcs into groups; group returns the number of that of an arc.
func grouped(arcs []api.Arc, groups int, group func(a api.Arc) int) [][]api.Arc {
	l := make([][]api.Arc, groups)
	for _, a := range arcs {
		n := group(a)
		l[n] = append(l[n], a)
	}
	return l
}

// byFrom returns the arcs from each state.
func byFrom(states int, arcs []api.Arc) [][]api.Arc {
	return grouped(arcs, states, func(a api.Arc) int { return a.From })
}

// reversed returns arcs in the opposite direction.
func reversed(arcs []api.Arc) []api.Arc {
	var l []api.Arc
	for _, a := range arcs {
		a.From, a.To = a.To, a.From
		l = append(l, a)
	}
	return l
}

// A reader follows the inputs of arcs from one set of states to the next.
type reader struct {
	by    [][]api.Arc // the arcs that read each symbol
	skips [][]api.Arc // of each state: its arcs that read nothing
}

// readerOf returns the reader for some arcs.
func readerOf(states int, arcs []api.Arc) reader {
	// Eps is -1, and so the first one of these groups.
	by := grouped(arcs, 1+api.Symbols, func(a api.Arc) int { return a.In - api.Eps })
	return reader{by: by[1:], skips: byFrom(states, by[0])}
}

// start returns the set of some states, and of those to which arcs lead from them that read nothing.
func (r reader) start(states ...int) stateSet {
	return reached(states, r.skips)
}

// read returns the set of the states to which a symbol leads from those of a set.
func (r reader) read(set *stateSet, symbol int) stateSet {
	var to []int
	for _, a := range r.by[symbol] {
		if set[a.From] {
			to = append(to, a.To)
		}
	}
	return r.start(to...)
}
