package subseq

import (
	"cmp"
	"slices"
	"sort"

	"wordbook/api"
	"wordbook/fst"
	"wordbook/wire"
)

const mostSituations = 512

// Determinize returns the canonical subsequential transducer for the function of t.
func Determinize(t api.FST, size int) (api.Sub, api.Errno) {
	if !fst.Valid(t) || !validSize(size) {
		return api.Sub{}, api.ErrArg
	}
	t = fst.Trim(restricted(t, size))
	if !isFunction(t) {
		return api.Sub{}, api.ErrState
	}
	d := situations{t: t, from: byFrom(len(t.Final), t.Arcs), texts: newTexts(), numbers: map[string]int{}}
	m, ok := d.machine(size)
	if !ok {
		return api.Sub{}, api.ErrLimit
	}
	return Min(m.sub(size, d.written)), api.OK
}

// restricted returns a transducer without the arcs that read symbols from size on.
func restricted(t api.FST, size int) api.FST {
	r := api.FST{Final: t.Final}
	for _, a := range t.Arcs {
		if a.In < size {
			r.Arcs = append(r.Arcs, a)
		}
	}
	return r
}

// situations are those of a transducer whose relation is a function, and all of whose states belong to accepting paths.
type situations struct {
	t       api.FST
	from    [][]api.Arc // the arcs from each state
	texts   *texts
	all     [][]place // that have been found, each one sorted by its states
	numbers map[string]int
}

// machine returns a machine whose states are the situations, with its words from their last symbols back to their first ones. It returns false, if there are too many situations.
func (d *situations) machine(size int) (machine, bool) {
	var m machine
	_, m.head = d.behind([]way{{by: api.Arc{In: api.Eps, Out: api.Eps}}})
	for i := 0; i < len(d.all); i++ {
		next, out := slices.Repeat([]int{noStep}, size), make([]word, size)
		for symbol, ways := range d.ways(d.all[i], size) {
			if len(ways) > 0 {
				next[symbol], out[symbol] = d.behind(ways)
			}
			if len(d.all) > mostSituations {
				return machine{}, false
			}
		}
		m.next, m.out = append(m.next, next), append(m.out, out)
		var tail word
		end := slices.IndexFunc(d.all[i], func(p place) bool { return d.t.Final[p.state] })
		if end >= 0 {
			tail = d.all[i][end].rest
		}
		m.final, m.tail = append(m.final, end >= 0), append(m.tail, tail)
	}
	return m, true
}

// A place is a state of a situation with its rest, from the last symbol back to the first one.
type place struct {
	state int
	rest  word
}

// A way leads from a place by an arc.
type way struct {
	from place
	by   api.Arc
}

// ways returns the ways that read each symbol in a situation.
func (d *situations) ways(situation []place, size int) [][]way {
	l := make([][]way, size)
	for _, p := range situation {
		for _, a := range d.from[p.state] {
			if a.In != api.Eps {
				l[a.In] = append(l[a.In], way{p, a})
			}
		}
	}
	return l
}

// behind returns the number of the situation behind some ways, and what is written on the way to it: the longest common beginning.
func (d *situations) behind(ways []way) (int, word) {
	size := d.texts.size()
	situation := d.reached(ways)
	common := d.common(situation)
	for i := range situation {
		situation[i].rest.length -= common.length
	}
	slices.SortFunc(situation, func(p, q place) int { return cmp.Compare(p.state, q.state) })
	var key []int
	for _, p := range situation {
		key = d.texts.appendKey(append(key, p.state), p.rest)
	}
	n := number(d.numbers, string(wire.Ints(key)))
	if n < len(d.all) {
		return n, d.texts.cutAround(common, size)
	}
	d.all = append(d.all, situation)
	return n, common
}

// reached returns the places to which some ways lead, and from there any number of arcs that read nothing. The first way to a state is as good as any other one, as their rests are the same.
func (d *situations) reached(ways []way) []place {
	var l []place
	seen := make([]bool, len(d.from))
	visit := func(w way) {
		if seen[w.by.To] {
			return
		}
		seen[w.by.To] = true
		rest := w.from.rest
		if w.by.Out != api.Eps {
			rest = d.texts.before(w.by.Out, rest)
		}
		l = append(l, place{w.by.To, rest})
	}
	for _, w := range ways {
		visit(w)
	}
	for i := 0; i < len(l); i++ {
		for _, a := range d.from[l[i].state] {
			if a.In == api.Eps {
				visit(way{l[i], a})
			}
		}
	}
	return l
}

// common returns the longest common beginning of all rests.
func (d *situations) common(situation []place) word {
	c := situation[0].rest
	for _, p := range situation {
		if c.length == 0 {
			break
		}
		differ := func(n int) bool { return !d.texts.same(d.oldest(c, n+1), d.oldest(p.rest, n+1)) }
		c = d.oldest(c, sort.Search(min(c.length, p.rest.length), differ))
	}
	return c
}

// oldest returns the symbols of a rest that were written first, as many as given.
func (d *situations) oldest(rest word, symbols int) word {
	return d.texts.without(rest, rest.length-symbols)
}

// written returns the symbols of a rest in the order in which they were written.
func (d *situations) written(rest word) []int {
	l := d.texts.symbols(rest)
	slices.Reverse(l)
	return l
}
