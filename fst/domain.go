package fst

import (
	"slices"

	"wordbook/api"
	"wordbook/automaton"
)

// Domain returns the automaton of the words that have an output.
func Domain(t api.FST, size int) (api.DFA, api.Errno) {
	if !Valid(t) || size < 1 || size > api.Symbols {
		return api.DFA{}, api.ErrArg
	}
	r := readerOf(len(t.Final), t.Arcs)
	start := r.start(0)
	sets := []stateSet{start}
	numbers := map[stateSet]int{start: 0}
	d := api.DFA{Size: size}
	for i := 0; i < len(sets); i++ {
		row := make([]int, size)
		for symbol := range row {
			to := r.read(&sets[i], symbol)
			n, known := numbers[to]
			if !known {
				n = len(sets)
				if n >= api.MaxStates {
					return api.DFA{}, api.ErrLimit
				}
				numbers[to] = n
				sets = append(sets, to)
			}
			row[symbol] = n
		}
		d.Next = append(d.Next, row)
		d.Final = append(d.Final, hasFinal(t, &sets[i]))
	}
	return automaton.Min(d), api.OK
}

// hasFinal reports whether a final state belongs to a set.
func hasFinal(t api.FST, set *stateSet) bool {
	return slices.ContainsFunc(finals(t), func(state int) bool { return set[state] })
}
