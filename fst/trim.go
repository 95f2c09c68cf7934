package fst

import "wordbook/api"

// Trim removes the states that are on no accepting path.
func Trim(t api.FST) api.FST {
	if !Valid(t) {
		return api.FST{}
	}
	return trimmed(t)
}

// trimmed returns what Trim does. The arcs may be more than those of a valid transducer.
func trimmed(t api.FST) api.FST {
	states := len(t.Final)
	begun := reached([]int{0}, byFrom(states, t.Arcs))
	ended := reached(finals(t), byFrom(states, reversed(t.Arcs)))
	if !ended[0] {
		return api.FST{Final: []bool{false}}
	}
	var kept api.FST
	numbers := make([]int, states)
	for state, final := range t.Final {
		if begun[state] && ended[state] {
			numbers[state] = len(kept.Final)
			kept.Final = append(kept.Final, final)
		} else {
			numbers[state] = -1
		}
	}
	kept.Arcs = appendRenumbered(nil, t.Arcs, func(state int) int { return numbers[state] })
	return kept
}
