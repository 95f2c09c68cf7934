package fst

import (
	"iter"

	"wordbook/api"
)

// A pair is a state of each of two transducers.
type pair struct{ s, t int }

// Compose returns the relation of s followed by t.
func Compose(s, t api.FST) (api.FST, api.Errno) {
	if !Valid(s) || !Valid(t) {
		return api.FST{}, api.ErrArg
	}
	pairs := []pair{{}}
	numbers := map[pair]int{{}: 0}
	number := func(p pair) int {
		n, known := numbers[p]
		if !known {
			n = len(pairs)
			numbers[p] = n
			pairs = append(pairs, p)
		}
		return n
	}
	var c api.FST
	fromS, fromT := byFrom(len(s.Final), s.Arcs), byFrom(len(t.Final), t.Arcs)
	for i := 0; i < len(pairs); i++ {
		p := pairs[i]
		c.Final = append(c.Final, s.Final[p.s] && t.Final[p.t])
		for x := range steps(p, fromS[p.s], fromT[p.t]) {
			c.Arcs = append(c.Arcs, api.Arc{From: i, In: x.in, Out: x.out, To: number(x.to)})
			if len(pairs) > api.MaxStates || len(c.Arcs) > api.MaxArcs {
				return api.FST{}, api.ErrLimit
			}
		}
	}
	return trimmed(c), api.OK
}

// A step leads to a pair of states; it reads what its arc of s reads, and writes what its arc of t writes.
type step struct {
	in, out int
	to      pair
}

// steps returns the steps of a pair, given the arcs from its states.
func steps(p pair, fromS, fromT []api.Arc) iter.Seq[step] {
	return func(yield func(x step) bool) {
		for _, a := range fromS {
			if a.Out == api.Eps {
				if !yield(step{a.In, api.Eps, pair{a.To, p.t}}) {
					return
				}
				continue
			}
			for _, b := range fromT {
				if a.Out == b.In && !yield(step{a.In, b.Out, pair{a.To, b.To}}) {
					return
				}
			}
		}
		for _, b := range fromT {
			if b.In == api.Eps && !yield(step{api.Eps, b.Out, pair{p.s, b.To}}) {
				return
			}
		}
	}
}
