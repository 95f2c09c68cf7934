package subseq_test

import (
	"fmt"
	"maps"
	"slices"
	"testing"

	"wordbook/api"
)

// notCanonical says in which point a subsequential transducer is not canonical, or returns an empty text. It looks at each point of the definition for itself.
func notCanonical(s api.Sub) string {
	n := len(s.Next)
	reached, ends := closedBy(s, 0)
	if !ends[0] {
		if !equal(s, blank(s.Size, 1)) {
			return "no word has an output, and it is not the one with one state"
		}
		return ""
	}
	for p := range n {
		if !reached[p] || !ends[p] {
			return fmt.Sprintf("state %d is not reached, or leads to no final state", p)
		}
	}
	for p, first := range firstSymbols(s) {
		if len(first) == 1 && !first[-1] {
			return fmt.Sprintf("all outputs from state %d begin with the same symbol", p)
		}
	}
	for p, row := range distinct(s) {
		for q := range p {
			if !row[q] {
				return fmt.Sprintf("states %d and %d have the same outputs", p, q)
			}
		}
	}
	next := 1
	for p, row := range s.Next {
		for _, to := range row {
			if to > next {
				return fmt.Sprintf("state %d is found before state %d", to, next)
			}
			if to == next {
				next++
			}
		}
		if p+1 < n && next <= p+1 {
			return fmt.Sprintf("state %d is not found in time", p+1)
		}
	}
	return ""
}

// closedBy tells which states are reached from a state, and which ones lead to final states.
func closedBy(s api.Sub, start int) (reached, ends []bool) {
	reached, ends = make([]bool, len(s.Next)), slices.Clone(s.Final)
	reached[start] = true
	for changed := true; changed; {
		changed = false
		for p, row := range s.Next {
			for _, to := range row {
				if to >= 0 && reached[p] && !reached[to] {
					reached[to], changed = true, true
				}
				if to >= 0 && ends[to] && !ends[p] {
					ends[p], changed = true, true
				}
			}
		}
	}
	return reached, ends
}

// firstSymbols are the first symbols of what is written from each state on, with -1, if nothing can be written.
func firstSymbols(s api.Sub) []map[int]bool {
	l := make([]map[int]bool, len(s.Next))
	for p := range l {
		l[p] = map[int]bool{}
		if len(s.Tail[p]) > 0 {
			l[p][s.Tail[p][0]] = true
		} else if s.Final[p] {
			l[p][-1] = true
		}
	}
	for changed := true; changed; {
		changed = false
		for p, row := range s.Next {
			before := len(l[p])
			for x, to := range row {
				if out := s.Out[p][x]; len(out) > 0 {
					l[p][out[0]] = true
				} else if to >= 0 {
					for n := range maps.Clone(l[to]) {
						l[p][n] = true
					}
				}
			}
			changed = changed || len(l[p]) != before
		}
	}
	return l
}

// distinct tells which states of a subsequential transducer have different outputs, if its outputs are as early as possible: it fills a table of all pairs.
func distinct(s api.Sub) [][]bool {
	n := len(s.Next)
	table := make([][]bool, n)
	for p := range table {
		table[p] = make([]bool, n)
		for q := range n {
			table[p][q] = s.Final[p] != s.Final[q] || !slices.Equal(s.Tail[p], s.Tail[q]) || !slices.EqualFunc(s.Out[p], s.Out[q], slices.Equal[[]int])
			for x := range s.Size {
				table[p][q] = table[p][q] || (s.Next[p][x] < 0) != (s.Next[q][x] < 0)
			}
		}
	}
	for changed := true; changed; {
		changed = false
		for p := range n {
			for q := range n {
				for x, to := range s.Next[p] {
					if !table[p][q] && to >= 0 && table[to][s.Next[q][x]] {
						table[p][q], changed = true, true
					}
				}
			}
		}
	}
	return table
}

// TestReference shows that the points of a canonical one are looked at, each with a transducer that is wrong in this point alone.
func TestReference(t *testing.T) {
	final := func(l ...int) map[int][]int {
		m := map[int][]int{}
		for _, p := range l {
			m[p] = nil
		}
		return m
	}
	for what, s := range map[string]api.Sub{
		"canonical":                    exampleMin(),
		"canonical, without outputs":   blank(3, 1),
		"canonical, with another Head": sub(1, 1, w(1, 2), final(0)),
	} {
		if fault := notCanonical(s); fault != "" {
			t.Errorf("%s: %s", what, fault)
		}
	}
	for what, s := range map[string]api.Sub{
		"no output, and two states":      blank(1, 2),
		"no output, and a step":          sub(1, 1, nil, nil, step{0, 0, 0, nil}),
		"no output, and a Head":          sub(1, 1, w(1), nil),
		"not reached":                    sub(1, 2, nil, final(0, 1)),
		"leads nowhere":                  sub(1, 2, nil, final(0), step{0, 0, 1, nil}),
		"late":                           example(),
		"late by Tail":                   sub(1, 1, nil, map[int][]int{0: w(1)}),
		"late behind steps":              sub(1, 3, nil, map[int][]int{2: w(1)}, step{0, 0, 1, nil}, step{1, 0, 2, nil}),
		"two states with equal outputs":  sub(1, 2, nil, final(0, 1), step{0, 0, 1, nil}, step{1, 0, 0, nil}),
		"more of them":                   sub(2, 4, nil, final(3), step{0, 0, 1, nil}, step{0, 1, 2, nil}, step{1, 0, 3, nil}, step{2, 0, 3, nil}),
		"numbered in another order":      sub(2, 3, nil, final(1, 2), step{0, 0, 2, nil}, step{0, 1, 1, nil}, step{1, 0, 2, nil}),
		"numbered by a search in depths": sub(2, 4, nil, final(2, 3), step{0, 0, 1, nil}, step{1, 0, 2, nil}, step{0, 1, 3, nil}, step{3, 1, 3, nil}),
	} {
		if notCanonical(s) == "" {
			t.Errorf("%s: not noticed", what)
		}
	}
}

// accepting tells which states belong to accepting paths.
func accepting(t api.FST) []bool {
	reached, ends := make([]bool, len(t.Final)), slices.Clone(t.Final)
	reached[0] = true
	for changed := true; changed; {
		changed = false
		for _, a := range t.Arcs {
			if reached[a.From] && !reached[a.To] {
				reached[a.To], changed = true, true
			}
			if ends[a.To] && !ends[a.From] {
				ends[a.From], changed = true, true
			}
		}
	}
	for p := range ends {
		ends[p] = ends[p] && reached[p]
	}
	return ends
}

// A twin is two ways that read the same: the states to which they lead, and what each of them has written and the other one not.
type twin struct {
	p, q int
	a, b string
}

// next are the twins behind a twin by one step.
func (x twin) next(t api.FST) []twin {
	var l []twin
	for _, a := range t.Arcs {
		if a.From == x.p && a.In == eps {
			l = append(l, twin{a.To, x.q, x.a + label(a.Out), x.b})
		}
		if a.From == x.q && a.In == eps {
			l = append(l, twin{x.p, a.To, x.a, x.b + label(a.Out)})
		}
		for _, b := range t.Arcs {
			if a.From == x.p && b.From == x.q && a.In == b.In && a.In != eps {
				l = append(l, twin{a.To, b.To, x.a + label(a.Out), x.b + label(b.Out)})
			}
		}
	}
	return l
}

// endingPairs tells from which pairs of states one word leads to two final states.
func endingPairs(t api.FST) [][]bool {
	ends := make([][]bool, len(t.Final))
	for p := range ends {
		ends[p] = make([]bool, len(ends))
		for q := range ends {
			ends[p][q] = t.Final[p] && t.Final[q]
		}
	}
	for changed := true; changed; {
		changed = false
		for p := range ends {
			for q := range ends {
				for _, x := range (twin{p: p, q: q}).next(t) {
					if ends[x.p][x.q] && !ends[p][q] {
						ends[p][q], changed = true, true
					}
				}
			}
		}
	}
	return ends
}

// functionBy reports whether no word has two different outputs: it follows all twins. If one way of a twin has written more than what the ways from there on can write that are no longer than the number of pairs, there are two outputs.
func functionBy(t api.FST) bool {
	ends, most := endingPairs(t), len(t.Final)*len(t.Final)
	todo := []twin{{}}
	known := map[twin]bool{{}: true}
	for i := 0; i < len(todo); i++ {
		for _, x := range todo[i].next(t) {
			if !ends[x.p][x.q] {
				continue
			}
			for x.a != "" && x.b != "" {
				if x.a[0] != x.b[0] {
					return false
				}
				x.a, x.b = x.a[1:], x.b[1:]
			}
			if len(x.a)+len(x.b) > most || t.Final[x.p] && t.Final[x.q] && x.a != x.b {
				return false
			}
			if !known[x] {
				known[x] = true
				todo = append(todo, x)
			}
		}
	}
	return true
}

// restrict leaves out the arcs that read symbols from size on.
func restrict(t api.FST, size int) api.FST {
	r := api.FST{Final: slices.Clone(t.Final)}
	for _, a := range t.Arcs {
		if a.In < size {
			r.Arcs = append(r.Arcs, a)
		}
	}
	return r
}

// A situation is a set of states with their rests.
type situation map[int]string

// collected are the situations that have been found.
type collected struct {
	skips   []api.Arc // the arcs that read nothing
	all     []situation
	numbers map[string]int
}

// found widens a set by the arcs that read nothing, removes the longest common beginning, and returns the number of the situation and this beginning.
func (c *collected) found(x situation) (int, []int) {
	for changed := true; changed; {
		changed = false
		for _, a := range c.skips {
			rest, from := x[a.From]
			if _, to := x[a.To]; from && !to {
				x[a.To], changed = rest+label(a.Out), true
			}
		}
	}
	rests := slices.Sorted(maps.Values(x))
	first, last := rests[0], rests[len(rests)-1]
	n := 0
	for n < len(first) && first[n] == last[n] {
		n++
	}
	key := ""
	for _, p := range slices.Sorted(maps.Keys(x)) {
		x[p] = x[p][n:]
		key += fmt.Sprintf("%d %d %s ", p, len(x[p]), x[p])
	}
	number, known := c.numbers[key]
	if !known {
		number = len(c.all)
		c.numbers[key] = number
		c.all = append(c.all, x)
	}
	return number, word(first[:n])
}

// situationsBy returns the subsequential transducer of the situations of a function, and how many there are. It looks at no more than some of them.
func situationsBy(t api.FST, size, most int) (api.Sub, int) {
	t = restrict(t, size)
	useful := accepting(t)
	if !useful[0] {
		return blank(size, 1), 0
	}
	by := map[int][]api.Arc{}
	for _, a := range t.Arcs {
		if useful[a.From] && useful[a.To] {
			by[a.In] = append(by[a.In], a)
		}
	}
	c := collected{skips: by[eps], numbers: map[string]int{}}
	s := blank(size, 0)
	_, s.Head = c.found(situation{0: ""})
	for i := 0; i < len(c.all) && len(c.all) <= most; i++ {
		next, out := times(size, -1), make([][]int, size)
		for symbol := range size {
			x := situation{}
			for _, a := range by[symbol] {
				if rest, from := c.all[i][a.From]; from {
					x[a.To] = rest + label(a.Out)
				}
			}
			if len(x) > 0 {
				next[symbol], out[symbol] = c.found(x)
			}
		}
		s.Next, s.Out = append(s.Next, next), append(s.Out, out)
		final, tail := false, ""
		for p, rest := range c.all[i] {
			if t.Final[p] {
				final, tail = true, rest
			}
		}
		s.Final, s.Tail = append(s.Final, final), append(s.Tail, word(tail))
	}
	return s, len(c.all)
}
