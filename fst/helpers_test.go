package fst_test

import (
	"fmt"
	"maps"
	"math"
	"math/rand"
	"reflect"
	"slices"
	"testing"

	"wordbook/api"
	"wordbook/fst"
)

// extremes are integers that are neither states nor symbols nor sizes; -1 is none of them, as it stands for no symbol.
var extremes = []int{math.MinInt, math.MinInt + 1, math.MinInt32, -1 << 32, -64, -2, 1 << 16, 1<<32 - 1, 1 << 32, 1<<32 + 1, math.MaxInt32, math.MaxInt - 1, math.MaxInt}

const eps = api.Eps

func arc(from, in, out, to int) api.Arc {
	return api.Arc{From: from, In: in, Out: out, To: to}
}

// machine is a transducer with some states, of which the given ones are final.
func machine(states int, final []int, arcs ...api.Arc) api.FST {
	t := api.FST{Final: make([]bool, states), Arcs: arcs}
	for _, s := range final {
		t.Final[s] = true
	}
	return t
}

// nothing is what Trim returns for an empty relation.
func nothing() api.FST { return machine(1, nil) }

// example is the transducer of the chapter.
func example() api.FST { return machine(1, []int{0}, arc(0, 0, 1, 0), arc(0, 0, eps, 0)) }

// chain is a transducer of some states, each of which leads to the next one by an arc.
func chain(states, in, out int) api.FST {
	t := machine(states, []int{states - 1})
	for s := range states - 1 {
		t.Arcs = append(t.Arcs, arc(s, in, out, s+1))
	}
	return t
}

// ring is a chain whose last state leads to its first one, which is final.
func ring(states, in, out int) api.FST {
	t := chain(states, in, out)
	t.Final = machine(states, []int{0}).Final
	t.Arcs = append(t.Arcs, arc(states-1, in, out, 0))
	return t
}

// withArcs is a transducer with more arcs, from its start to its start.
func withArcs(t api.FST, arcs int) api.FST {
	t.Arcs = slices.Concat(t.Arcs, slices.Repeat([]api.Arc{arc(0, 5, 5, 0)}, arcs))
	return t
}

// randomLabel is a symbol from 0 to symbols-1, or Eps.
func randomLabel(r *rand.Rand, symbols int) int {
	if r.Intn(4) == 0 {
		return eps
	}
	return r.Intn(symbols)
}

// random is a valid transducer. Some of its states belong to no accepting path, and some of its arcs are equal.
func random(r *rand.Rand, symbols, states, arcs int) api.FST {
	t := machine(states, nil)
	rare := 1 + r.Intn(3)
	for s := range states {
		t.Final[s] = r.Intn(rare) == 0
	}
	for range r.Intn(arcs + 1) {
		t.Arcs = append(t.Arcs, arc(r.Intn(states), randomLabel(r, symbols), randomLabel(r, symbols), r.Intn(states)))
	}
	if len(t.Arcs) > 0 && r.Intn(4) == 0 {
		t.Arcs = append(t.Arcs, t.Arcs[r.Intn(len(t.Arcs))])
	}
	return t
}

// small is a random transducer of a few states, over the symbols 0 and 1.
func small(r *rand.Rand) api.FST {
	return random(r, 2, 1+r.Intn(4), 7)
}

// randomDFA is a valid automaton, in which many states lead nowhere.
func randomDFA(r *rand.Rand, size, states int) api.DFA {
	d := api.DFA{Size: size, Final: make([]bool, states)}
	for s := range states {
		d.Final[s] = r.Intn(3) == 0
		var row []int
		for range size {
			row = append(row, min(states-1, s+r.Intn(3), r.Intn(2*states)))
		}
		d.Next = append(d.Next, row)
	}
	return d
}

// A couple is an input and an output.
type couple struct{ x, y string }

func text(w []int) string {
	var b []byte
	for _, n := range w {
		b = append(b, byte(n))
	}
	return string(b)
}

func word(s string) []int {
	var w []int
	for _, b := range []byte(s) {
		w = append(w, int(b))
	}
	return w
}

// label is what an arc adds to a word.
func label(n int) string {
	if n == eps {
		return ""
	}
	return string([]byte{byte(n)})
}

type relation map[couple]bool

// related are the pairs of a transducer with at most some symbols: it follows all paths, and keeps what they have read and written.
func related(t api.FST, mostIn, mostOut int) relation {
	type at struct {
		state int
		c     couple
	}
	todo := []at{{}}
	known := map[at]bool{{}: true}
	r := relation{}
	for i := 0; i < len(todo); i++ {
		p := todo[i]
		if t.Final[p.state] {
			r[p.c] = true
		}
		for _, a := range t.Arcs {
			next := at{a.To, couple{p.c.x + label(a.In), p.c.y + label(a.Out)}}
			if a.From == p.state && len(next.c.x) <= mostIn && len(next.c.y) <= mostOut && !known[next] {
				known[next] = true
				todo = append(todo, next)
			}
		}
	}
	return r
}

// joined are the pairs of two relations, one after the other.
func joined(a, b relation, mostIn, mostOut int) relation {
	r := relation{}
	for p := range a {
		for q := range b {
			if len(p.x)+len(q.x) <= mostIn && len(p.y)+len(q.y) <= mostOut {
				r[couple{p.x + q.x, p.y + q.y}] = true
			}
		}
	}
	return r
}

// repeated are the pairs of a relation, any number of times.
func repeated(a relation, mostIn, mostOut int) relation {
	r := relation{{}: true}
	for before := 0; before < len(r); {
		before = len(r)
		for c := range joined(r, a, mostIn, mostOut) {
			r[c] = true
		}
	}
	return r
}

// through are the pairs (x, z) with a pair (x, y) of a and a pair (y, z) of b.
func through(a, b relation) relation {
	after := map[string][]string{}
	for q := range b {
		after[q.x] = append(after[q.x], q.y)
	}
	r := relation{}
	for p := range a {
		for _, z := range after[p.y] {
			r[couple{p.x, z}] = true
		}
	}
	return r
}

func inverse(a relation) relation {
	r := relation{}
	for p := range a {
		r[couple{p.y, p.x}] = true
	}
	return r
}

// outputsBy are the least 65 outputs of a word, in order: those of all places and states are found together, until nothing changes.
func outputsBy(t api.FST, w []int) []string {
	found := make([][][]string, len(w)+1)
	for i := range found {
		found[i] = make([][]string, len(t.Final))
	}
	for s, final := range t.Final {
		if final {
			found[len(w)][s] = []string{""}
		}
	}
	for changed := true; changed; {
		changed = false
		for i := range found {
			for _, a := range t.Arcs {
				to := i
				if a.In != eps {
					if i == len(w) || w[i] != a.In {
						continue
					}
					to++
				}
				l := slices.Clone(found[i][a.From])
				for _, y := range found[to][a.To] {
					l = append(l, label(a.Out)+y)
				}
				slices.SortFunc(l, less)
				l = slices.Compact(l)
				l = l[:min(65, len(l))]
				changed = changed || !slices.Equal(l, found[i][a.From])
				found[i][a.From] = l
			}
		}
	}
	return found[0][0]
}

// less is the order of outputs.
func less(v, w string) int {
	if len(v) != len(w) {
		return len(v) - len(w)
	}
	return slices.Compare([]byte(v), []byte(w))
}

// trimBy is what Trim returns: it asks for each state what is reached from the start, and from it.
func trimBy(t api.FST) api.FST {
	n := len(t.Final)
	leads := make([][]bool, n)
	for s := range leads {
		leads[s] = make([]bool, n)
		leads[s][s] = true
	}
	for _, a := range t.Arcs {
		leads[a.From][a.To] = true
	}
	for k := range n {
		for i := range n {
			for j := range n {
				leads[i][j] = leads[i][j] || leads[i][k] && leads[k][j]
			}
		}
	}
	var r api.FST
	numbers := map[int]int{}
	for s := range n {
		for f, final := range t.Final {
			if _, known := numbers[s]; final && !known && leads[0][s] && leads[s][f] {
				numbers[s] = len(r.Final)
				r.Final = append(r.Final, t.Final[s])
			}
		}
	}
	if len(numbers) == 0 {
		return nothing()
	}
	for _, a := range t.Arcs {
		from, ok1 := numbers[a.From]
		to, ok2 := numbers[a.To]
		if ok1 && ok2 {
			r.Arcs = append(r.Arcs, arc(from, a.In, a.Out, to))
		}
	}
	return r
}

// arcsBy are the arcs from each state.
func arcsBy(t api.FST) [][]api.Arc {
	l := make([][]api.Arc, len(t.Final))
	for _, a := range t.Arcs {
		l[a.From] = append(l[a.From], a)
	}
	return l
}

// pairsBy are the numbers of pairs of states and of steps in the composition of two transducers.
func pairsBy(s, t api.FST) (int, int) {
	todo := [][2]int{{}}
	known := map[[2]int]bool{{}: true}
	steps := 0
	fromS, fromT := arcsBy(s), arcsBy(t)
	for i := 0; i < len(todo); i++ {
		p := todo[i]
		step := func(to [2]int) {
			steps++
			if !known[to] {
				known[to] = true
				todo = append(todo, to)
			}
		}
		for _, a := range fromS[p[0]] {
			for _, b := range fromT[p[1]] {
				if a.Out == b.In && a.Out != eps {
					step([2]int{a.To, b.To})
				}
			}
			if a.Out == eps {
				step([2]int{a.To, p[1]})
			}
		}
		for _, b := range fromT[p[1]] {
			if b.In == eps {
				step([2]int{p[0], b.To})
			}
		}
	}
	return len(todo), steps
}

// domainBy is an automaton of the words that have an output, whose states are sets of states.
func domainBy(t api.FST, size int) api.DFA {
	widened := func(set []bool) []bool {
		for changed := true; changed; {
			changed = false
			for _, a := range t.Arcs {
				if a.In == eps && set[a.From] && !set[a.To] {
					set[a.To], changed = true, true
				}
			}
		}
		return set
	}
	start := make([]bool, len(t.Final))
	start[0] = true
	sets := [][]bool{widened(start)}
	numbers := map[string]int{keyOf(sets[0]): 0}
	d := api.DFA{Size: size}
	for i := 0; i < len(sets); i++ {
		final := false
		for s, f := range t.Final {
			final = final || f && sets[i][s]
		}
		d.Final = append(d.Final, final)
		var row []int
		for x := range size {
			to := make([]bool, len(t.Final))
			for _, a := range t.Arcs {
				if a.In == x && sets[i][a.From] {
					to[a.To] = true
				}
			}
			to = widened(to)
			key := keyOf(to)
			n, known := numbers[key]
			if !known {
				n = len(sets)
				numbers[key] = n
				sets = append(sets, to)
			}
			row = append(row, n)
		}
		d.Next = append(d.Next, row)
	}
	return d
}

// keyOf is a key for a set.
func keyOf(set []bool) string {
	b := make([]byte, len(set))
	for i, has := range set {
		if has {
			b[i] = 1
		}
	}
	return string(b)
}

// wordsUpTo are all words over the symbols from 0 to size-1 up to a length.
func wordsUpTo(length, size int) [][]int {
	l := [][]int{nil}
	for i := 0; i < len(l) && len(l[i]) < length; i++ {
		for n := range size {
			l = append(l, append(slices.Clone(l[i]), n))
		}
	}
	return l
}

func copyOf(t api.FST) api.FST {
	return api.FST{Final: slices.Clone(t.Final), Arcs: slices.Clone(t.Arcs)}
}

// equal compares two transducers; nil and empty lists are equal.
func equal(s, t api.FST) bool {
	return slices.Equal(s.Final, t.Final) && slices.Equal(s.Arcs, t.Arcs)
}

func equalDFA(a, b api.DFA) bool {
	return a.Size == b.Size && slices.Equal(a.Final, b.Final) && slices.EqualFunc(a.Next, b.Next, slices.Equal[[]int])
}

// notValid are transducers each of which is not valid in one way.
func notValid() []api.FST {
	l := []api.FST{{}, {Final: []bool{}}, {Arcs: []api.Arc{arc(0, 0, 0, 0)}}, machine(api.MaxStates+1, []int{0}), chain(api.MaxStates+1, 0, 0), machine(2*api.MaxStates, []int{0}), withArcs(machine(1, []int{0}), api.MaxArcs+1), withArcs(chain(9, 1, 1), api.MaxArcs-7)}
	for _, f := range []func(a *api.Arc) *int{
		func(a *api.Arc) *int { return &a.From },
		func(a *api.Arc) *int { return &a.To },
		func(a *api.Arc) *int { return &a.In },
		func(a *api.Arc) *int { return &a.Out },
	} {
		for i := range 3 {
			for _, n := range append(extremes, -2, 64, 65, -64) {
				t := machine(3, []int{0, 2}, arc(0, 1, 1, 1), arc(1, 1, 1, 2), arc(2, 1, eps, 0))
				*f(&t.Arcs[i]) = n
				l = append(l, t)
			}
		}
	}
	for _, n := range []int{-1, 3, 4} {
		for _, a := range []api.Arc{arc(n, 1, 1, 0), arc(0, 1, 1, n), arc(n, 1, 1, n)} {
			l = append(l, machine(3, []int{0, 1, 2}, arc(0, 1, 1, 1), a), machine(3, []int{0}, a, arc(2, 1, 1, 0)))
		}
	}
	return l
}

// is checks a transducer.
func is(t *testing.T, what string, got, want api.FST) {
	t.Helper()
	if !equal(got, want) {
		t.Errorf("%s: %v, want %v", what, short(got), short(want))
	}
}

// zero checks that a transducer is the zero value.
func zero(t *testing.T, what string, got api.FST) {
	t.Helper()
	if !reflect.DeepEqual(got, api.FST{}) {
		t.Errorf("%s: %v, want the zero value", what, short(got))
	}
}

// fails checks an error code, and the zero value beside it.
func fails(t *testing.T, what string, got api.FST, code, want api.Errno) {
	t.Helper()
	if code != want {
		t.Errorf("%s: error %d, want %d", what, code, want)
	}
	zero(t, what, got)
}

// fits checks that a transducer is valid and has at most some states and arcs.
func fits(t *testing.T, what string, got api.FST, states, arcs int) {
	t.Helper()
	if !fst.Valid(got) || len(got.Final) > states || len(got.Arcs) > arcs {
		t.Errorf("%s: %v, of %d states and %d arcs, at most %d and %d", what, short(got), len(got.Final), len(got.Arcs), states, arcs)
	}
}

// relates checks the pairs of a transducer with at most some symbols.
func relates(t *testing.T, what string, got api.FST, want relation, mostIn, mostOut int) {
	t.Helper()
	if r := related(got, mostIn, mostOut); !maps.Equal(r, want) {
		t.Fatalf("%s: %v with the pairs %v, want %v", what, short(got), r, want)
	}
}

// outputs checks that a word has exactly some outputs.
func outputs(t *testing.T, what string, u api.FST, w []int, want ...[]int) {
	t.Helper()
	l, code := fst.Apply(u, w, api.MaxOut)
	if code != api.OK || !slices.EqualFunc(l, want, slices.Equal[[]int]) {
		t.Errorf("%s: error %d, and %d outputs, want %d", what, code, len(l), len(want))
	}
}

// short is what is printed of a transducer.
func short(t api.FST) any {
	if len(t.Final)+len(t.Arcs) > 60 {
		return fmt.Sprintf("%d states and %d arcs", len(t.Final), len(t.Arcs))
	}
	return t
}
