package automaton

import (
	"slices"

	"wordbook/api"
)

// search returns the automaton of the states to which steps lead from a start, and true; false, if they are more than a number. They are numbered in the order in which a breadth-first search reaches them that takes symbols in increasing order.
func search[S comparable](size, most int, start S, step func(s S, symbol int) S, final func(s S) bool) (api.DFA, bool) {
	d := api.DFA{Size: size}
	states := []S{start}
	numbers := map[S]int{start: 0}
	for i := 0; i < len(states); i++ {
		row := make([]int, size)
		for symbol := range row {
			to := step(states[i], symbol)
			n, known := numbers[to]
			if !known {
				n = len(states)
				if n >= most {
					return api.DFA{}, false
				}
				numbers[to] = n
				states = append(states, to)
			}
			row[symbol] = n
		}
		d.Next = append(d.Next, row)
		d.Final = append(d.Final, final(states[i]))
	}
	return d, true
}

// limited returns the canonical automaton of what a search has found, or ErrLimit, if this was too much.
func limited(d api.DFA, ok bool) (api.DFA, api.Errno) {
	if !ok {
		return api.DFA{}, api.ErrLimit
	}
	return canonical(d), api.OK
}

// Least returns the least word that an automaton accepts, if there is one.
func Least(d api.DFA) ([]int, bool) {
	if !Valid(d) {
		return nil, false
	}
	step := func(s, symbol int) int { return d.Next[s][symbol] }
	final := func(s int) bool { return d.Final[s] }
	reached, _ := search(d.Size, api.MaxStates, 0, step, final)
	return leastOf(reached)
}

// leastOf returns the least word that leads to a final state, in an automaton that a search has numbered.
func leastOf(d api.DFA) ([]int, bool) {
	end := slices.Index(d.Final, true)
	if end < 0 {
		return nil, false
	}
	// The search has reached each state first by its least word, and the states in the order of these words.
	type arrival struct{ from, symbol int }
	arrivals := []arrival{{}}
	for s, row := range d.Next {
		for symbol, to := range row {
			if to == len(arrivals) {
				arrivals = append(arrivals, arrival{s, symbol})
			}
		}
	}
	var w []int
	for s := end; s > 0; s = arrivals[s].from {
		w = append(w, arrivals[s].symbol)
	}
	slices.Reverse(w)
	return w, true
}

// Differ returns the least word that exactly one of two automata accepts, if there is one.
func Differ(a, b api.DFA) ([]int, bool) {
	if !sameSymbols(a, b) {
		return nil, false
	}
	// If states are joined by pairs that were reached before, a word that only one of them accepts tells apart the states of one of these pairs, too, which is reached by a lesser word. So such a pair is not followed: there are fewer pairs than states, and not as many as products of them.
	g := groups(len(a.Next) + len(b.Next))
	g.join(0, len(a.Next))
	nothing := pair{-1, -1}
	step := func(s pair, symbol int) pair {
		if s == nothing {
			return s
		}
		to := pair{a.Next[s.a][symbol], b.Next[s.b][symbol]}
		if !g.join(to.a, len(a.Next)+to.b) {
			return nothing
		}
		return to
	}
	final := func(s pair) bool {
		return s != nothing && a.Final[s.a] != b.Final[s.b]
	}
	reached, _ := search(a.Size, len(g), pair{}, step, final)
	return leastOf(reached)
}

// A grouping divides numbers into groups: each number leads to another one of its group, or is the head of it.
type grouping []int

// groups returns a grouping in which each number is alone.
func groups(n int) grouping {
	g := make(grouping, n)
	for i := range g {
		g[i] = i
	}
	return g
}

// head returns the head of the group of a number.
func (g grouping) head(n int) int {
	for g[n] != n {
		g[n] = g[g[n]]
		n = g[n]
	}
	return n
}

// join joins the groups of two numbers, and reports whether these were different.
func (g grouping) join(m, n int) bool {
	m, n = g.head(m), g.head(n)
	g[m] = n
	return m != n
}
