package subseq_test

import (
	"math/rand"
	"slices"
	"testing"

	"wordbook/api"
	"wordbook/fst"
	"wordbook/subseq"
)

// notValidFST are transducers of layer 9 each of which is not valid in one way.
func notValidFST() []api.FST {
	l := []api.FST{{}, {Final: []bool{}}, {Arcs: []api.Arc{arc(0, 0, 0, 0)}}, machine(api.MaxStates+1, []int{0}), {Final: []bool{true}, Arcs: slices.Repeat([]api.Arc{arc(0, 5, 5, 0)}, api.MaxArcs+1)}}
	for _, f := range []func(a *api.Arc) *int{
		func(a *api.Arc) *int { return &a.From },
		func(a *api.Arc) *int { return &a.To },
		func(a *api.Arc) *int { return &a.In },
		func(a *api.Arc) *int { return &a.Out },
	} {
		for _, n := range append(extremes, -2, 64) {
			u := machine(3, []int{0, 2}, arc(0, 1, 1, 1), arc(1, 1, 1, 2), arc(2, 1, eps, 0))
			*f(&u.Arcs[1]) = n
			l = append(l, u)
		}
	}
	return append(l, machine(3, []int{0}, arc(3, 1, 1, 0)), machine(3, []int{0}, arc(0, 1, 1, 3)), machine(3, []int{0}, arc(-1, 1, 1, 0)))
}

func TestFSTNotValid(t *testing.T) {
	for _, u := range notValidFST() {
		if subseq.Functional(u) {
			t.Errorf("P10.2: Functional(%v)", u)
		}
		for _, size := range []int{1, 2, 64, 0} {
			fails(t, "P10.3: a transducer that is not valid", u, size, api.ErrArg)
		}
	}
}

// functions are transducers of layer 9 by which no word has two different outputs. Each word over 0 and 1 has an output by one of the two ways, or by both.
func functions() map[string]api.FST {
	both := fst.Or(fst.Word(w(0, 1), w(3, 4, 5)), fst.Word(w(0, 1), w(3, 4, 5)))
	return map[string]api.FST{
		"no words":                       machine(1, nil),
		"no final state":                 machine(2, nil, arc(0, 0, 1, 1), arc(0, 0, 2, 1)),
		"the empty word":                 machine(1, []int{0}),
		"equal arcs":                     machine(1, []int{0}, arc(0, 0, 1, 0), arc(0, 0, 1, 0)),
		"two arcs":                       machine(1, []int{0}, arc(0, 0, 1, 0), arc(0, 1, 2, 0)),
		"a circle that does nothing":     machine(2, []int{1}, arc(0, eps, eps, 0), arc(0, 0, 1, 1), arc(1, eps, eps, 0), arc(0, eps, eps, 1)),
		"two ways with one output":       both,
		"written early or late":          machine(4, []int{3}, arc(0, 0, 7, 1), arc(1, 1, eps, 3), arc(0, 0, eps, 2), arc(2, 1, 7, 3)),
		"written before or after":        machine(4, []int{3}, arc(0, eps, 7, 1), arc(1, 1, eps, 3), arc(0, 1, eps, 2), arc(2, eps, 7, 3)),
		"written early or late, again":   machine(3, []int{0}, arc(0, 0, 7, 1), arc(1, 1, eps, 0), arc(0, 0, eps, 2), arc(2, 1, 7, 0)),
		"two outputs that end nowhere":   machine(4, []int{1}, arc(0, 0, 1, 1), arc(0, 0, 2, 2), arc(0, 0, 3, 3)),
		"two outputs that are not begun": machine(4, []int{1}, arc(0, 0, 1, 1), arc(2, 0, 1, 3), arc(2, 0, 2, 3), arc(3, 0, 1, 1)),
		"they end by different words":    machine(5, []int{3, 4}, arc(0, 0, 1, 1), arc(0, 0, 2, 2), arc(1, 0, 1, 3), arc(2, 1, 1, 4)),
		"a circle that ends nowhere":     machine(2, []int{0}, arc(0, eps, eps, 1), arc(1, eps, 5, 1)),
		"the last letter first":          lastFirst(),
	}
}

// lastFirst writes the last symbol of a word over 0 and 1, and then as many 2 as it has other symbols.
func lastFirst() api.FST {
	return machine(4, []int{3}, arc(0, eps, 0, 1), arc(0, eps, 1, 2), arc(1, 0, 2, 1), arc(1, 1, 2, 1), arc(2, 0, 2, 2), arc(2, 1, 2, 2), arc(1, 0, eps, 3), arc(2, 1, eps, 3))
}

// relations are transducers of layer 9 by which some word has two different outputs.
func relations() map[string]api.FST {
	return map[string]api.FST{
		"different symbols":             machine(1, []int{0}, arc(0, 0, 1, 0), arc(0, 0, 2, 0)),
		"a symbol or none":              machine(1, []int{0}, arc(0, 0, 1, 0), arc(0, 0, eps, 0)),
		"by the greatest symbol":        machine(1, []int{0}, arc(0, 63, 1, 0), arc(0, 63, 2, 0)),
		"the empty word":                machine(2, []int{0, 1}, arc(0, eps, 1, 1)),
		"infinitely many":               machine(1, []int{0}, arc(0, eps, 1, 0)),
		"infinitely many, in a circle":  machine(3, []int{2}, arc(0, 0, 0, 1), arc(1, eps, eps, 0), arc(0, eps, 4, 1), arc(1, 1, 1, 2)),
		"a longer one, late":            machine(3, []int{1, 2}, arc(0, 0, 1, 1), arc(0, 0, 1, 2), arc(1, 0, eps, 1), arc(2, 0, eps, 2), arc(2, 1, 1, 2), arc(1, 1, eps, 1)),
		"in another order":              fst.Or(fst.Word(w(0, 0), w(1, 2)), fst.Word(w(0, 0), w(2, 1))),
		"the beginning of the other":    fst.Or(fst.Word(w(0, 0), w(1)), fst.Word(w(0, 0), w(1, 1))),
		"at the end of long outputs":    fst.Or(fst.Word(w(0), append(times(900, 1), 2)), fst.Word(w(0), append(times(900, 1), 3))),
		"in the middle of long outputs": fst.Or(fst.Word(w(0), slices.Concat(times(400, 1), w(2), times(400, 1))), fst.Word(w(0), slices.Concat(times(399, 1), w(2), times(401, 1)))),
		"by a long word":                machine(7, []int{0, 4}, arc(0, 0, 1, 1), arc(1, 0, 1, 2), arc(2, 0, 1, 0), arc(0, eps, eps, 3), arc(3, 0, 1, 4), arc(4, 0, 1, 3), arc(3, 1, 1, 5), arc(0, 1, 2, 6), arc(5, eps, eps, 4), arc(6, eps, eps, 4)),
	}
}

func TestFunctional(t *testing.T) {
	for what, u := range functions() {
		if !subseq.Functional(u) || !functionBy(u) {
			t.Errorf("P10.2: %s: not functional", what)
		}
	}
	for what, u := range relations() {
		if subseq.Functional(u) || !fst.Valid(u) {
			t.Errorf("P10.2: %s: functional", what)
		}
		if len(u.Final) < 20 && functionBy(u) {
			t.Errorf("%s: functional by the reference", what)
		}
	}
}

func TestRandomFunctional(t *testing.T) {
	r := rand.New(rand.NewSource(11))
	results := map[bool]int{}
	check := func(u api.FST) {
		want := functionBy(u)
		results[want]++
		if subseq.Functional(u) != want {
			t.Fatalf("P10.2: Functional(%v) = %v", u, !want)
		}
		for _, input := range wordsUpTo(4, 2) {
			if l, code := fst.Apply(u, input, 1); want && (code != api.OK || len(l) > 1) {
				t.Fatalf("%v has two outputs for %v", u, input)
			}
		}
	}
	for range 8000 {
		check(random(r, 1+r.Intn(2), 1+r.Intn(5), 8))
	}
	// Unions and sequences of functions have the same outputs in many ways, and early or late.
	for range 2000 {
		a := smallSub(r)
		u, v := subseq.Of(a), subseq.Of(delayed(a))
		switch r.Intn(3) {
		case 0:
			u = fst.Or(u, v)
		case 1:
			u = fst.Then(u, v)
		case 2:
			u = fst.Star(u)
		}
		if u = fst.Trim(u); len(u.Final) <= 12 {
			check(u)
		}
	}
	if results[true] < 2000 || results[false] < 2000 {
		t.Error("these are functional and not:", results)
	}
}

// turns is the union of two transducers of about 2n states each. The first one writes n-1 symbols for each round in which it reads n-1 times 0 and then 1, and nothing for the n rounds behind 2, and the second one does the opposite. If they are in the same state for the first time, one has written about n*n symbols more than the other one.
func turns(n int, last ...int) api.FST {
	var parts []api.FST
	for side := range 2 {
		u := machine(2*n+1, []int{2 * n})
		ring, row := 0, n
		if side == 1 {
			ring, row = n, 0
		}
		for i := range n {
			u.Arcs = append(u.Arcs, arc(row+i, 0, eps, row+i))
			if i < n-1 {
				u.Arcs = append(u.Arcs, arc(ring+i, 0, 9, ring+i+1), arc(row+i, 1, eps, row+i+1))
			}
		}
		u.Arcs = append(u.Arcs, arc(ring+n-1, 1, eps, ring))
		ends := []int{ring + n - 1, row + n - 1}
		if side == 1 {
			slices.Reverse(ends)
		}
		u.Arcs = append(u.Arcs, arc(ends[0], 2, eps, n), arc(ends[1], 3, last[side], 2*n))
		parts = append(parts, u)
	}
	return fst.Or(parts[0], parts[1])
}

// TestGreatFunctional looks at transducers of the greatest sizes: of all pairs of states, and of outputs that are written very early or very late.
func TestGreatFunctional(t *testing.T) {
	all := machine(api.MaxStates, nil)
	r := rand.New(rand.NewSource(12))
	for p := range api.MaxStates {
		all.Final[p] = true
		for range api.MaxArcs / api.MaxStates {
			all.Arcs = append(all.Arcs, arc(p, 0, 1, r.Intn(api.MaxStates)))
		}
	}
	if !subseq.Functional(all) {
		t.Error("P10.2: one output for each length: not functional")
	}
	all.Arcs[len(all.Arcs)-1].Out = 2
	if subseq.Functional(all) {
		t.Error("P10.2: another symbol on one arc: functional")
	}
	for _, n := range []int{3, 20, 400} {
		if !subseq.Functional(turns(n, 9, 9)) {
			t.Errorf("P10.2: %d turns: not functional", n)
		}
		for _, last := range [][]int{{9, 8}, {9, eps}, {eps, 9}} {
			if subseq.Functional(turns(n, last...)) {
				t.Errorf("P10.2: %d turns, and then %v: functional", n, last)
			}
		}
	}
}
