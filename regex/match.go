package regex

import (
	"slices"

	"wordbook/api"
)

// A state of a machine reads a symbol of its set, if it has one, and leads to the states next.
type state struct {
	set  uint64
	next []int
}

// A machine follows a word through an expression, in all ways at once: the expressions that derivatives lead to can grow too large for this.
type machine struct {
	states []state
}

// Match reports whether an expression is valid and has a word.
func Match(r api.Regex, w []int) bool {
	if !Valid(r) {
		return false
	}
	var m machine
	end := m.add(0)
	now := []int{m.lead(r, end)}
	// The number of the last step at which a state was reached, from 1 on.
	reached := make([]int, len(m.states))
	for i, symbol := range w {
		now = m.read(m.spread(now, reached, i+1), symbol)
		if len(now) == 0 {
			return false
		}
	}
	return slices.Contains(m.spread(now, reached, len(w)+1), end)
}

// add adds a state.
func (m *machine) add(set uint64, next ...int) int {
	m.states = append(m.states, state{set, next})
	return len(m.states) - 1
}

// lead returns a state from which exactly the words of a valid expression lead to a given state.
func (m *machine) lead(r api.Regex, to int) int {
	switch r.Kind {
	case api.RxEmpty:
		return to
	case api.RxSet:
		return m.add(setOf(r.Symbols), to)
	case api.RxSeq:
		for _, k := range slices.Backward(r.Kids) {
			to = m.lead(k, to)
		}
		return to
	case api.RxAlt:
		next := make([]int, len(r.Kids))
		for i, k := range r.Kids {
			next[i] = m.lead(k, to)
		}
		return m.add(0, next...)
	case api.RxStar:
		again := m.add(0, to)
		first := m.lead(r.Kids[0], again)
		m.states[again].next = append(m.states[again].next, first)
		return again
	}
	return m.add(0)
}

// spread returns the states to which some states lead without reading a symbol, these included, each of them once.
func (m *machine) spread(from, reached []int, step int) []int {
	var l []int
	add := func(states []int) {
		for _, n := range states {
			if reached[n] != step {
				reached[n] = step
				l = append(l, n)
			}
		}
	}
	add(from)
	for i := 0; i < len(l); i++ {
		if x := m.states[l[i]]; x.set == 0 {
			add(x.next)
		}
	}
	return l
}

// read returns the states to which some states lead by reading a symbol.
func (m *machine) read(from []int, symbol int) []int {
	if symbol < 0 || symbol >= api.Symbols {
		return nil
	}
	var l []int
	for _, n := range from {
		if x := m.states[n]; x.set&(1<<symbol) != 0 {
			l = append(l, x.next...)
		}
	}
	return l
}
