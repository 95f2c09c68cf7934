package automaton_test

import (
	"fmt"
	"math"
	"math/rand"
	"reflect"
	"slices"
	"testing"

	"wordbook/api"
	"wordbook/regex"
)

// extremes are integers that are neither states nor symbols nor sizes.
var extremes = []int{math.MinInt, math.MinInt + 1, math.MinInt32, -1 << 32, -64, -1, 1 << 16, 1<<32 - 1, 1 << 32, 1<<32 + 1, math.MaxInt32, math.MaxInt - 1, math.MaxInt}

var none, empty = api.Regex{Kind: api.RxNone}, api.Regex{Kind: api.RxEmpty}

func set(symbols ...int) api.Regex {
	return api.Regex{Kind: api.RxSet, Symbols: symbols}
}

func seq(kids ...api.Regex) api.Regex {
	return api.Regex{Kind: api.RxSeq, Kids: kids}
}

func alt(kids ...api.Regex) api.Regex {
	return api.Regex{Kind: api.RxAlt, Kids: kids}
}

func star(kid api.Regex) api.Regex {
	return api.Regex{Kind: api.RxStar, Kids: []api.Regex{kid}}
}

// times are n expressions.
func times(n int, r api.Regex) []api.Regex {
	return slices.Repeat([]api.Regex{r}, n)
}

// after is the expression of any symbols of all, then first, and then n symbols of all: its automaton has to remember the last n+1 symbols.
func after(n int, all, first api.Regex) api.Regex {
	return seq(append([]api.Regex{star(all), first}, times(n, all)...)...)
}

// random is a valid expression of at most some levels.
func random(r *rand.Rand, levels int, symbols ...int) api.Regex {
	n := r.Intn(12)
	if levels <= 1 && n > 3 {
		n = 3
	}
	var kids []api.Regex
	if n > 3 {
		for range r.Intn(4) {
			kids = append(kids, random(r, levels-1, symbols...))
		}
	}
	switch {
	case n == 0 && r.Intn(4) == 0:
		return none
	case n == 0:
		return empty
	case n <= 3:
		var l []int
		for _, s := range symbols {
			if r.Intn(3) == 0 {
				l = append(l, s)
			}
		}
		if len(l) == 0 {
			l = append(l, symbols[r.Intn(len(symbols))])
		}
		return set(l...)
	case n <= 7:
		return seq(kids...)
	case n <= 9:
		return alt(kids...)
	}
	return star(random(r, levels-1, symbols...))
}

// dfa is an automaton with the given final states, whose rows are the given ones.
func dfa(size int, final []int, rows ...[]int) api.DFA {
	d := api.DFA{Size: size, Next: rows, Final: make([]bool, len(rows))}
	for _, s := range final {
		d.Final[s] = true
	}
	return d
}

// repeated is a row that leads everywhere to one state.
func repeated(size, to int) []int {
	return slices.Repeat([]int{to}, size)
}

// all is the canonical automaton of all words, and nothing that of no word.
func all(size int) api.DFA     { return dfa(size, []int{0}, repeated(size, 0)) }
func nothing(size int) api.DFA { return dfa(size, nil, repeated(size, 0)) }

// lasso is an automaton whose states follow one after the other by each symbol; the last one leads back to a given one.
func lasso(size, states, back int, final ...int) api.DFA {
	d := dfa(size, nil)
	d.Final = make([]bool, states)
	for _, s := range final {
		d.Final[s] = true
	}
	for s := range states {
		to := s + 1
		if to == states {
			to = back
		}
		d.Next = append(d.Next, repeated(size, to))
	}
	return d
}

// inverted is an automaton with the other states final.
func inverted(d api.DFA) api.DFA {
	d = copyOf(d)
	for s := range d.Final {
		d.Final[s] = !d.Final[s]
	}
	return d
}

// randomDFA is a valid automaton; its later states lead to few others, so that many of them are not reached, or alike.
func randomDFA(r *rand.Rand, size, states int) api.DFA {
	d := api.DFA{Size: size}
	rare := 1 + r.Intn(6)
	near := 1 + r.Intn(states)
	for s := range states {
		row := make([]int, size)
		for x := range row {
			row[x] = (s + r.Intn(near)) % states
			if r.Intn(4) == 0 {
				row[x] = r.Intn(states)
			}
		}
		d.Next = append(d.Next, row)
		d.Final = append(d.Final, r.Intn(rare) == 0)
	}
	return d
}

// shuffled is an automaton of the same language, in which some states stand twice or three times.
func shuffled(r *rand.Rand, d api.DFA) api.DFA {
	var of []int // the state of d for each new one
	for s := range d.Next {
		for range 1 + r.Intn(3) {
			of = append(of, s)
		}
	}
	r.Shuffle(len(of)-1, func(i, j int) { of[i+1], of[j+1] = of[j+1], of[i+1] })
	at := slices.Index(of, 0)
	of[0], of[at] = of[at], of[0]
	n := api.DFA{Size: d.Size}
	for _, s := range of {
		var row []int
		for _, to := range d.Next[s] {
			var copies []int
			for i, c := range of {
				if c == to {
					copies = append(copies, i)
				}
			}
			row = append(row, copies[r.Intn(len(copies))])
		}
		n.Next = append(n.Next, row)
		n.Final = append(n.Final, d.Final[s])
	}
	return n
}

func copyOf(d api.DFA) api.DFA {
	c := api.DFA{Size: d.Size, Final: slices.Clone(d.Final)}
	for _, row := range d.Next {
		c.Next = append(c.Next, slices.Clone(row))
	}
	return c
}

// equal compares two automata; nil and empty lists are equal.
func equal(a, b api.DFA) bool {
	return a.Size == b.Size && slices.Equal(a.Final, b.Final) && slices.EqualFunc(a.Next, b.Next, slices.Equal[[]int])
}

// zero reports whether an automaton is the zero value.
func zero(d api.DFA) bool {
	return equal(d, api.DFA{})
}

// wordsUpTo are all words over the symbols from 0 to size-1 up to a length, in the order of their lengths, and lexicographically.
func wordsUpTo(length, size int) [][]int {
	l := [][]int{nil}
	for i := 0; i < len(l) && len(l[i]) < length; i++ {
		for n := range size {
			l = append(l, append(slices.Clone(l[i]), n))
		}
	}
	return l
}

// acceptsBy follows a word.
func acceptsBy(d api.DFA, w []int) bool {
	s := 0
	for _, n := range w {
		if n < 0 || n >= d.Size {
			return false
		}
		s = d.Next[s][n]
	}
	return d.Final[s]
}

// minBy is the canonical automaton: it fills a table of the pairs of states that a word tells apart.
func minBy(d api.DFA) api.DFA {
	n := len(d.Next)
	apart := make([][]bool, n)
	for p := range apart {
		apart[p] = make([]bool, n)
		for q := range apart[p] {
			apart[p][q] = d.Final[p] != d.Final[q]
		}
	}
	for changed := true; changed; {
		changed = false
		for p := range n {
			for q := range n {
				for x := 0; x < d.Size && !apart[p][q]; x++ {
					if apart[d.Next[p][x]][d.Next[q][x]] {
						apart[p][q], changed = true, true
					}
				}
			}
		}
	}
	m := api.DFA{Size: d.Size}
	queue := []int{0}
	number := func(s int) int {
		for i, q := range queue {
			if !apart[s][q] {
				return i
			}
		}
		queue = append(queue, s)
		return len(queue) - 1
	}
	for i := 0; i < len(queue); i++ {
		var row []int
		for _, to := range d.Next[queue[i]] {
			row = append(row, number(to))
		}
		m.Next = append(m.Next, row)
		m.Final = append(m.Final, d.Final[queue[i]])
	}
	return m
}

// exploreBy is the automaton of what steps lead to, with texts for states.
func exploreBy[S any](size int, start S, step func(S, int) S, final func(S) bool) api.DFA {
	d := api.DFA{Size: size}
	states, numbers := []S{start}, map[string]int{fmt.Sprint(start): 0}
	for i := 0; i < len(states); i++ {
		var row []int
		for x := range size {
			to := step(states[i], x)
			n, known := numbers[fmt.Sprint(to)]
			if !known {
				n = len(states)
				numbers[fmt.Sprint(to)] = n
				states = append(states, to)
			}
			row = append(row, n)
		}
		d.Next = append(d.Next, row)
		d.Final = append(d.Final, final(states[i]))
	}
	return d
}

// ofBy is the automaton whose states are the different derivatives of an expression.
func ofBy(r api.Regex, size int) api.DFA {
	return exploreBy(size, regex.Simple(r), regex.Derive, regex.Empty)
}

// productBy is the automaton of the pairs of states of two automata.
func productBy(a, b api.DFA, final func(p, q bool) bool) api.DFA {
	return exploreBy(a.Size, [2]int{}, func(s [2]int, x int) [2]int { return [2]int{a.Next[s[0]][x], b.Next[s[1]][x]} },
		func(s [2]int) bool { return final(a.Final[s[0]], b.Final[s[1]]) })
}

// reverseBy is the automaton of the sets of states from which a reversed word leads to final states.
func reverseBy(d api.DFA) api.DFA {
	m := minBy(d)
	before := func(l []int, x int) []int {
		var from []int
		for s := range m.Next {
			if slices.Contains(l, m.Next[s][x]) {
				from = append(from, s)
			}
		}
		return from
	}
	var start []int
	for s, f := range m.Final {
		if f {
			start = append(start, s)
		}
	}
	return exploreBy(m.Size, start, before, func(l []int) bool { return slices.Contains(l, 0) })
}

// leastBy is the first word of some that a function accepts.
func leastBy(words [][]int, accepts func(w []int) bool) ([]int, bool) {
	for _, w := range words {
		if accepts(w) {
			return w, true
		}
	}
	return nil, false
}

// notValid are automata each of which is not valid in one way.
func notValid() []api.DFA {
	l := []api.DFA{{}, {Size: 1}, {Size: 1, Final: []bool{true}}, {Size: 1, Next: [][]int{{0}}}, {Size: 1, Next: [][]int{{}}, Final: []bool{true}}, {Size: 1, Next: [][]int{nil}, Final: []bool{true}}, {Next: [][]int{{}}, Final: []bool{true}}}
	for _, n := range append(extremes, 0, api.Symbols+1) {
		d := all(1)
		d.Size = n
		l = append(l, d)
		if n >= 0 && n <= 1<<16 {
			l = append(l, all(n))
		}
	}
	example := dfa(2, []int{1}, []int{0, 1}, []int{2, 1}, []int{1, 1})
	for _, n := range append(extremes, 3, 4) {
		for s := range example.Next {
			for x := range 2 {
				d := copyOf(example)
				d.Next[s][x] = n
				l = append(l, d)
			}
		}
	}
	for s := range example.Next {
		for _, row := range [][]int{nil, {0}, {0, 1, 0}} {
			d := copyOf(example)
			d.Next[s] = row
			l = append(l, d)
		}
	}
	for _, f := range []func(d *api.DFA){
		func(d *api.DFA) { d.Final = append(d.Final, true) },
		func(d *api.DFA) { d.Final = d.Final[:2] },
		func(d *api.DFA) { d.Final = nil },
		func(d *api.DFA) { d.Next = append(d.Next, []int{0, 0}) },
		func(d *api.DFA) { d.Next = nil },
		func(d *api.DFA) { d.Size = 1 },
		func(d *api.DFA) { d.Size = 3 },
		func(d *api.DFA) { *d = lasso(1, api.MaxStates+1, 0, 1) },
		func(d *api.DFA) { *d = lasso(2, 2*api.MaxStates, 0, 1) },
	} {
		d := copyOf(example)
		f(&d)
		l = append(l, d)
	}
	return l
}

// is checks an automaton.
func is(t *testing.T, what string, got, want api.DFA) {
	t.Helper()
	if !equal(got, want) {
		t.Errorf("%s: %v, want %v", what, short(got), short(want))
	}
}

// found checks an automaton that was returned with an error code.
func found(t *testing.T, what string, got api.DFA, code api.Errno, want api.DFA) {
	t.Helper()
	if code != api.OK {
		t.Errorf("%s: error %d", what, code)
	}
	is(t, what, got, want)
}

// fails checks an error code, and the zero value beside it.
func fails(t *testing.T, what string, got api.DFA, code, want api.Errno) {
	t.Helper()
	if code != want || !reflect.DeepEqual(got, api.DFA{}) {
		t.Errorf("%s: error %d and an automaton of %d states, want error %d", what, code, len(got.Next), want)
	}
}

// short is what is printed of an automaton.
func short(d api.DFA) any {
	if len(d.Next)*d.Size > 200 {
		return fmt.Sprintf("size %d, %d states", d.Size, len(d.Next))
	}
	return d
}
