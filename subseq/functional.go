package subseq

import (
	"iter"
	"slices"

	"wordbook/api"
	"wordbook/fst"
)

// Functional reports whether no word has two different outputs.
func Functional(t api.FST) bool {
	return fst.Valid(t) && isFunction(t)
}

// A pair is one of states to which two ways lead that read the same. The lesser state is the first one.
type pair [2]int

// What is known of a pair.
const (
	hopeless = iota // no word leads from both of its states to final states
	open            // there is such a word, but no ways to the pair are known
	even            // there are ways to it that write the same
	ahead           // there are ways to it of which one writes more
)

// A lead is what one of two ways has written, and the other one has not written yet.
type lead struct {
	side int  // of the way that is ahead: 0 or 1
	rest word // from its last symbol back to its first one
}

// twins are ways that are followed two at a time. If no word has two different outputs, any two to a pair that is not hopeless have the same lead.
type twins struct {
	t     api.FST
	known []byte // of each pair
	leads map[pair]lead
	texts *texts
	todo  []pair // whose steps have to be followed
}

// isFunction reports whether no word has two different outputs by a valid transducer.
func isFunction(t api.FST) bool {
	states := len(t.Final)
	w := twins{t: t, known: make([]byte, states*states), leads: map[pair]lead{}, texts: newTexts()}
	w.findEnds()
	return w.agree()
}

// at returns where it is kept what is known of a pair.
func (w *twins) at(p pair) *byte {
	return &w.known[p[0]*len(w.t.Final)+p[1]]
}

// findEnds finds the pairs that are not hopeless.
func (w *twins) findEnds() {
	var back []api.Arc
	for _, a := range w.t.Arcs {
		back = append(back, api.Arc{From: a.To, In: a.In, To: a.From})
	}
	into := byFrom(len(w.t.Final), back)
	var todo []pair
	reach := func(p pair) {
		p, _ = sorted(p)
		if at := w.at(p); *at == hopeless {
			*at = open
			todo = append(todo, p)
		}
	}
	for p, final := range w.t.Final {
		for q := range p + 1 {
			if final && w.t.Final[q] {
				reach(pair{p, q})
			}
		}
	}
	for len(todo) > 0 {
		last := todo[len(todo)-1]
		todo = todo[:len(todo)-1]
		for p := range steps(last, into[last[0]], into[last[1]]) {
			reach(p)
		}
	}
}

// agree follows all ways from the start on, until they show a word with two different outputs, and reports whether there is none.
func (w *twins) agree() bool {
	from := byFrom(len(w.t.Final), w.t.Arcs)
	if !w.follow(lead{}, pair{}, [2]int{api.Eps, api.Eps}) {
		return false
	}
	for i := 0; i < len(w.todo); i++ {
		p := w.todo[i]
		now := w.leads[p]
		a, b := from[p[0]], from[p[1]]
		// Where one way has to go on without reading, the other one waits, so that not all orders of their steps are followed.
		if w.passes(p[0], a) {
			b = nil
		} else if w.passes(p[1], b) {
			a = nil
		}
		for to, out := range steps(p, a, b) {
			if !w.follow(now, to, out) {
				return false
			}
		}
	}
	return true
}

// passes reports whether ways neither end in a state nor read anything there, given the arcs from it.
func (w *twins) passes(state int, from []api.Arc) bool {
	return !w.t.Final[state] && !slices.ContainsFunc(from, func(a api.Arc) bool { return a.In != api.Eps })
}

// follow follows a step of two ways with a lead. It returns false, if this shows a word with two different outputs.
func (w *twins) follow(now lead, to pair, out [2]int) bool {
	to, turned := sorted(to)
	at := w.at(to)
	if *at == hopeless {
		return true
	}
	size := w.texts.size()
	next, ok := w.extended(now, out)
	if !ok {
		return false
	}
	if turned {
		next.side = 1 - next.side
	}
	if *at == open {
		w.todo = append(w.todo, to)
		if next.rest.length > 0 {
			*at, w.leads[to] = ahead, next
			return !w.t.Final[to[0]] || !w.t.Final[to[1]]
		}
		*at = even
	}
	var before lead
	if *at == ahead {
		before = w.leads[to]
	}
	ok = next.rest.length == 0 || next.side == before.side
	ok = ok && w.texts.same(next.rest, before.rest)
	w.texts.cut(size)
	return ok
}

// extended returns a lead after each of two ways has written a symbol or nothing. It returns false, if they have written different symbols at the same place.
func (w *twins) extended(now lead, out [2]int) (lead, bool) {
	for side, symbol := range out {
		switch {
		case symbol == api.Eps:
		case now.rest.length == 0 || now.side == side:
			now = lead{side, w.texts.before(symbol, now.rest)}
		case w.texts.last(now.rest) == symbol:
			now.rest.length--
		default:
			return lead{}, false
		}
	}
	return now, true
}

// sorted returns a pair with the lesser state first, and whether it has been turned for this.
func sorted(p pair) (pair, bool) {
	if p[0] <= p[1] {
		return p, false
	}
	return pair{p[1], p[0]}, true
}

// steps returns the pairs to which the next arcs of two ways lead, and what they write: an arc of each of them that read the same symbol, or one that reads nothing.
func steps(p pair, from0, from1 []api.Arc) iter.Seq2[pair, [2]int] {
	return func(yield func(to pair, out [2]int) bool) {
		for _, a := range from0 {
			if a.In == api.Eps {
				if !yield(pair{a.To, p[1]}, [2]int{a.Out, api.Eps}) {
					return
				}
				continue
			}
			for _, b := range from1 {
				if a.In == b.In && !yield(pair{a.To, b.To}, [2]int{a.Out, b.Out}) {
					return
				}
			}
		}
		for _, b := range from1 {
			if b.In == api.Eps && !yield(pair{p[0], b.To}, [2]int{api.Eps, b.Out}) {
				return
			}
		}
	}
}

// byFrom returns the arcs from each state.
func byFrom(states int, arcs []api.Arc) [][]api.Arc {
	l := make([][]api.Arc, states)
	for _, a := range arcs {
		l[a.From] = append(l[a.From], a)
	}
	return l
}
