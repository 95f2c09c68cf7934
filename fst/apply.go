package fst

import (
	"iter"
	"slices"

	"wordbook/api"
)

// Apply returns the outputs for a word, in order.
func Apply(t api.FST, w []int, most int) ([][]int, api.Errno) {
	if !Valid(t) || most < 1 || most > api.MaxOut || len(w) > api.MaxText {
		return nil, api.ErrArg
	}
	if !areSymbols(w) {
		return nil, api.OK
	}
	f := finder{t: t, w: w, most: most, from: byFrom(len(t.Final), t.Arcs), ends: endings(t, w)}
	if !f.ends[0][0] {
		return nil, api.OK
	}
	f.visits = make([]visits, (len(w)+1)*len(t.Final))
	return f.outputs()
}

// endings returns, for each place in a word, the set of the states from which the rest of the word leads to a final state.
func endings(t api.FST, w []int) []stateSet {
	r := readerOf(len(t.Final), reversed(t.Arcs))
	l := make([]stateSet, len(w)+1)
	l[len(w)] = r.start(finals(t)...)
	for i := len(w) - 1; i >= 0; i-- {
		l[i] = r.read(&l[i+1], w[i])
	}
	return l
}

// A finder looks for the outputs of a word. It follows all beginnings of them, together with the points to which they lead: a point is a state at a place in the word, as the number place * states + state. Points from which the rest of the word leads to no final state are left out, so that each beginning is that of an output.
type finder struct {
	t          api.FST
	w          []int
	most       int         // the outputs that are allowed
	from       [][]api.Arc // the arcs from each state
	ends       []stateSet  // at each place: the states that are not left out
	beginnings int         // that were followed
	visits     []visits    // of each point
}

// visits says how many beginnings led to a point, and which one was the last.
type visits struct{ times, last int }

// A beginning of an output, with points to which it leads: all of its points are these, and those that are reached from them by arcs that write nothing.
type beginning struct {
	text   *text
	points []int
}

// A text is a list of symbols: the last one, and the text before it, which several texts can share. The empty text is nil.
type text struct {
	before *text
	last   int
}

// symbols returns the symbols of a text.
func (x *text) symbols() []int {
	var l []int
	for ; x != nil; x = x.before {
		l = append(l, x.last)
	}
	slices.Reverse(l)
	return l
}

// outputs returns all outputs, the shorter ones first, as all beginnings of the same length are followed together.
func (f *finder) outputs() ([][]int, api.Errno) {
	var found [][]int
	for level := []beginning{{points: []int{0}}}; len(level) > 0; {
		// Each beginning is that of a different output, which is not found yet.
		if len(found)+len(level) > f.most {
			return nil, api.ErrLimit
		}
		var longer []beginning
		for _, b := range level {
			next, whole, ok := f.follow(b.points)
			if !ok {
				return nil, api.ErrLimit
			}
			if whole {
				found = append(found, b.text.symbols())
			}
			for symbol, points := range next {
				if len(points) > 0 {
					longer = append(longer, beginning{&text{b.text, symbol}, points})
				}
			}
		}
		level = longer
	}
	return found, api.OK
}

// follow follows a new beginning. It returns the points to which each further symbol leads, and whether the beginning is itself an output. At last, it returns false, if there are too many outputs.
func (f *finder) follow(points []int) (next [api.Symbols][]int, whole, ok bool) {
	f.beginnings++
	ok = true
	var all []int
	reach := func(point int) {
		v := &f.visits[point]
		if v.last == f.beginnings {
			return
		}
		v.last = f.beginnings
		v.times++
		// All beginnings that lead to a point have the same continuations, and so at least one output each. If there are infinitely many outputs, infinitely many beginnings lead to some point.
		ok = ok && v.times <= f.most
		all = append(all, point)
	}
	for _, point := range points {
		reach(point)
	}
	for i := 0; i < len(all) && ok; i++ {
		whole = whole || f.isEnd(all[i])
		for out, to := range f.steps(all[i]) {
			if out == api.Eps {
				reach(to)
			} else {
				next[out] = append(next[out], to)
			}
		}
	}
	return next, whole, ok
}

// isEnd reports whether a point is a final state at the end of the word.
func (f *finder) isEnd(point int) bool {
	states := len(f.t.Final)
	return point/states == len(f.w) && f.t.Final[point%states]
}

// steps returns what the arcs from a point write, and the points to which they lead.
func (f *finder) steps(point int) iter.Seq2[int, int] {
	states := len(f.t.Final)
	place, state := point/states, point%states
	return func(yield func(out, to int) bool) {
		for _, a := range f.from[state] {
			to := place
			if a.In != api.Eps {
				if place == len(f.w) || a.In != f.w[place] {
					continue
				}
				to++
			}
			if f.ends[to][a.To] && !yield(a.Out, to*states+a.To) {
				return
			}
		}
	}
}
