package automaton

import (
	"slices"

	"wordbook/api"
)

// canonical returns the canonical automaton of the language of a valid one.
func canonical(d api.DFA) api.DFA {
	p := classes(d)
	step := func(c, symbol int) int { return p.class[d.Next[p.first(c)][symbol]] }
	final := func(c int) bool { return d.Final[p.first(c)] }
	m, _ := search(d.Size, len(d.Next), p.class[0], step, final)
	return m
}

// classes divides the states of an automaton into classes, such that two states are of one class exactly if the same words lead from them to final states.
func classes(d api.DFA) *partition {
	p := whole(len(d.Next))
	for s, final := range d.Final {
		if final {
			p.mark(s)
		}
	}
	p.split(0)
	before := arcsInto(d)
	// Each new class is the smaller part of one that was split, so this takes time in proportion to the steps of the automaton and the logarithm of its states.
	for c := 0; c < len(p.from); c++ {
		// What is split off from the class meanwhile is a new class, which comes later.
		members := slices.Clone(p.order[p.from[c]:p.to[c]])
		for _, arcs := range before {
			var touched []int
			// By one symbol, each state leads to one state alone, so none is marked twice.
			for _, to := range members {
				for s := arcs.last[to]; s >= 0; s = arcs.other[s] {
					if p.mark(s) {
						touched = append(touched, p.class[s])
					}
				}
			}
			for _, t := range touched {
				p.split(t)
			}
		}
	}
	return p
}

// arcs are the states from which one symbol leads to each state, as lists: the last one of them, and for each one another one, or -1.
type arcs struct{ last, other []int }

// arcsInto returns the arcs of each symbol.
func arcsInto(d api.DFA) []arcs {
	l := make([]arcs, d.Size)
	for symbol := range l {
		last, other := make([]int, len(d.Next)), make([]int, len(d.Next))
		for s := range last {
			last[s] = -1
		}
		for s, row := range d.Next {
			to := row[symbol]
			other[s], last[to] = last[to], s
		}
		l[symbol] = arcs{last, other}
	}
	return l
}

// A partition divides states into classes.
type partition struct {
	order    []int // all states, those of a class one after the other, its marked ones first
	place    []int // of each state in order
	class    []int // of each state
	from, to []int // of each class in order
	marked   []int // of each class: how many of its states are marked
}

// whole returns the partition of some states, at least one, into one class.
func whole(states int) *partition {
	p := &partition{
		order: make([]int, states), place: make([]int, states), class: make([]int, states),
		from: []int{0}, to: []int{states}, marked: []int{0},
	}
	for s := range states {
		p.order[s], p.place[s] = s, s
	}
	return p
}

// first returns the first state of a class.
func (p *partition) first(class int) int {
	return p.order[p.from[class]]
}

// mark marks a state that is not marked, and reports whether it is the first one of its class.
func (p *partition) mark(s int) bool {
	c := p.class[s]
	at := p.from[c] + p.marked[c]
	other := p.order[at]
	p.order[p.place[s]], p.place[other] = other, p.place[s]
	p.order[at], p.place[s] = s, at
	p.marked[c]++
	return p.marked[c] == 1
}

// split divides a class into its marked states and its other ones, if there are both, and removes the marks. The smaller part is a new class.
func (p *partition) split(c int) {
	from, middle, to := p.from[c], p.from[c]+p.marked[c], p.to[c]
	p.marked[c] = 0
	if middle == from || middle == to {
		return
	}
	if middle-from <= to-middle {
		p.from[c], to = middle, middle
	} else {
		p.to[c], from = middle, middle
	}
	for _, s := range p.order[from:to] {
		p.class[s] = len(p.from)
	}
	p.from, p.to, p.marked = append(p.from, from), append(p.to, to), append(p.marked, 0)
}
