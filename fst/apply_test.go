package fst_test

import (
	"math/rand"
	"slices"
	"testing"

	"wordbook/api"
	"wordbook/fst"
)

// applied checks Apply.
func applied(t *testing.T, what string, u api.FST, w []int, most int, code api.Errno, want ...[]int) {
	t.Helper()
	l, got := fst.Apply(u, w, most)
	if got != code || !slices.EqualFunc(l, want, slices.Equal[[]int]) || code != api.OK && l != nil {
		t.Errorf("P9.7: %s: Apply of %d symbols, most %d: error %d and %d outputs, want error %d and %d", what, len(w), most, got, len(l), code, len(want))
	}
}

func TestExamples(t *testing.T) {
	applied(t, "example", example(), []int{0, 0}, 3, api.OK, nil, []int{1}, []int{1, 1})
	applied(t, "example", example(), []int{0, 0}, 2, api.ErrLimit)
	applied(t, "example", fst.Invert(example()), []int{1}, 64, api.ErrLimit)
}

func TestApplyArguments(t *testing.T) {
	long := slices.Repeat([]int{1}, api.MaxText+1)
	for _, n := range append(extremes, 0, -1, api.MaxOut+1) {
		for _, w := range [][]int{nil, {0}, {64}, {9}} {
			applied(t, "most", example(), w, n, api.ErrArg)
		}
		applied(t, "most", nothing(), nil, n, api.ErrArg)
	}
	for _, most := range []int{1, 2, 63, 64} {
		applied(t, "most", example(), nil, most, api.OK, nil)
		applied(t, "most", nothing(), nil, most, api.OK)
	}
	applied(t, "1024 symbols", ring(1, 1, 2), long[1:], 1, api.OK, slices.Repeat([]int{2}, api.MaxText))
	applied(t, "1025 symbols", ring(1, 1, 2), long, 1, api.ErrArg)
	applied(t, "1025 symbols", nothing(), long, 1, api.ErrArg)
	applied(t, "1025 symbols", nothing(), slices.Repeat([]int{-1}, api.MaxText+1), 1, api.ErrArg)
	applied(t, "1024 elements", ring(1, 1, 2), slices.Repeat([]int{-1}, api.MaxText), 1, api.OK)
	applied(t, "too many elements", machine(0, nil), long, 0, api.ErrArg)
}

// TestApplySymbols checks that an element that is no symbol is not read, neither by an arc that reads nothing.
func TestApplySymbols(t *testing.T) {
	every := machine(1, []int{0}, arc(0, eps, eps, 0))
	for n := range api.Symbols {
		every.Arcs = append(every.Arcs, arc(0, n, n, 0))
	}
	for n := range api.Symbols {
		applied(t, "symbol", every, []int{n, 5, n}, 1, api.OK, []int{n, 5, n})
	}
	for _, n := range append(extremes, -1, 64, 65, 128) {
		for _, w := range [][]int{{n}, {0, n}, {n, 0}, {1, n, 1}} {
			applied(t, "no symbol", every, w, 64, api.OK)
			applied(t, "no symbol", machine(2, []int{0, 1}, arc(0, eps, 1, 1), arc(1, eps, eps, 0), arc(0, 1, 1, 0)), w, 64, api.OK)
		}
	}
}

func TestApplyOrder(t *testing.T) {
	want := [][]int{nil, {5}, {63}, {0, 0}, {0, 1}, {1, 0}, {62, 0}, {0, 0, 0}, {0, 0, 1}, {1, 0, 0}}
	var u api.FST
	for i := range want {
		v := fst.Word([]int{3}, want[(i*7+2)%len(want)])
		if i == 0 {
			u = v
		} else {
			u = fst.Or(u, v)
		}
		// Outputs that are found several times count once.
		u = fst.Or(v, u)
	}
	for most := 1; most <= api.MaxOut; most++ {
		if most < len(want) {
			applied(t, "order", u, []int{3}, most, api.ErrLimit)
		} else {
			applied(t, "order", u, []int{3}, most, api.OK, want...)
		}
		applied(t, "order", u, []int{3, 3}, most, api.OK)
		applied(t, "order", u, nil, most, api.OK)
	}
}

func TestApplyMost(t *testing.T) {
	for n := 1; n <= api.MaxOut; n++ {
		u, v := machine(2, []int{1}), machine(n, nil)
		var outs, lengths [][]int
		for i := range n {
			u.Arcs = append(u.Arcs, arc(0, 1, n-1-i, 1))
			outs = append(outs, []int{i})
			v.Final[i] = true
			lengths = append(lengths, slices.Repeat([]int{1}, i))
			if i > 0 {
				v.Arcs = append(v.Arcs, arc(i-1, eps, 1, i))
			}
		}
		applied(t, "as many", u, []int{1}, n, api.OK, outs...)
		applied(t, "as many, of different lengths", v, nil, n, api.OK, lengths...)
		applied(t, "in a long word", fst.Then(u, ring(1, 1, eps)), slices.Repeat([]int{1}, api.MaxText), n, api.OK, outs...)
		if n > 1 {
			applied(t, "one more", u, []int{1}, n-1, api.ErrLimit)
			applied(t, "one more, of different lengths", v, nil, n-1, api.ErrLimit)
			applied(t, "one more in a long word", fst.Then(u, ring(1, 1, eps)), slices.Repeat([]int{1}, api.MaxText), n-1, api.ErrLimit)
		}
	}
	applied(t, "65 outputs", chainOfEnds(65), nil, 64, api.ErrLimit)
	applied(t, "66 outputs", chainOfEnds(66), nil, 64, api.ErrLimit)
}

// chainOfEnds has the outputs of any number of 1, less than the number of its states.
func chainOfEnds(states int) api.FST {
	u := chain(states, eps, 1)
	for s := range u.Final {
		u.Final[s] = true
	}
	return u
}

func TestApplyInfinite(t *testing.T) {
	for name, x := range map[string]struct {
		u    api.FST
		code api.Errno
		want [][]int
	}{
		"at the start":               {machine(2, []int{1}, arc(0, eps, 1, 0), arc(0, 1, 1, 1)), api.ErrLimit, nil},
		"at the end":                 {machine(2, []int{1}, arc(1, eps, 1, 1), arc(0, 1, 1, 1)), api.ErrLimit, nil},
		"of two arcs":                {machine(3, []int{1}, arc(0, 1, 1, 1), arc(1, eps, 0, 2), arc(2, eps, eps, 1)), api.ErrLimit, nil},
		"before the word":            {machine(3, []int{2}, arc(0, eps, eps, 1), arc(1, eps, 7, 0), arc(1, 1, eps, 2)), api.ErrLimit, nil},
		"long":                       {machine(api.MaxStates, []int{2000}, append(ring(api.MaxStates, eps, 1).Arcs, arc(2000, 1, 1, 2000))...), api.ErrLimit, nil},
		"without outputs":            {machine(3, []int{1}, arc(0, 1, 1, 1), arc(1, eps, eps, 2), arc(2, eps, eps, 1), arc(1, eps, eps, 1)), api.OK, [][]int{{1}}},
		"that does not end":          {machine(3, []int{1}, arc(0, 1, 1, 1), arc(0, eps, eps, 2), arc(2, eps, 1, 2)), api.OK, [][]int{{1}}},
		"that is not reached":        {machine(3, []int{1}, arc(0, 1, 1, 1), arc(2, eps, 1, 2), arc(2, eps, eps, 1)), api.OK, [][]int{{1}}},
		"that another word reaches":  {machine(3, []int{1}, arc(0, 1, 1, 1), arc(0, 2, 1, 2), arc(2, eps, 1, 2), arc(2, eps, eps, 1)), api.OK, [][]int{{1}}},
		"that another word ends":     {machine(3, []int{1}, arc(0, 1, 1, 1), arc(0, 1, 1, 2), arc(2, eps, 1, 2), arc(2, 1, eps, 1)), api.OK, [][]int{{1}}},
		"without an end for a word":  {machine(2, []int{1}, arc(0, eps, 1, 0), arc(0, 2, 1, 1)), api.OK, nil},
		"that reads":                 {machine(1, []int{0}, arc(0, 1, 1, 0)), api.OK, [][]int{{1}}},
		"that writes as much itself": {machine(2, []int{1}, arc(0, eps, 1, 0), arc(0, 1, eps, 1), arc(1, eps, 1, 1)), api.ErrLimit, nil},
	} {
		for _, most := range []int{1, 64} {
			applied(t, "a circle "+name, x.u, []int{1}, most, x.code, x.want...)
		}
	}
}

func TestRandomApply(t *testing.T) {
	r := rand.New(rand.NewSource(9))
	counts := map[int]int{}
	for i := range 12000 {
		u := small(r)
		if i%2 == 0 { // few of these have circles
			u = without(u, func(a api.Arc) bool { return a.In == eps && a.To <= a.From })
		}
		var w []int
		for range r.Intn(5) {
			w = append(w, r.Intn(2))
		}
		if len(w) > 0 && r.Intn(9) == 0 {
			w[r.Intn(len(w))] = 2 - 3*r.Intn(2)
		}
		var want [][]int
		for _, y := range outputsBy(u, w) {
			want = append(want, word(y))
		}
		counts[len(want)]++
		for _, most := range []int{len(want) - 1, len(want), len(want) + 1, 1, 2, 64, 1 + r.Intn(64)} {
			switch {
			case most < 1 || most > api.MaxOut:
				applied(t, "random", u, w, most, api.ErrArg)
			case most < len(want):
				applied(t, "random", u, w, most, api.ErrLimit)
			default:
				applied(t, "random", u, w, most, api.OK, want...)
			}
		}
		if t.Failed() {
			t.Fatalf("%v of %v by %v", want, w, u)
		}
	}
	for _, n := range []int{0, 1, 2, 3, 4, 65} {
		if counts[n] < 50 {
			t.Error("so many have", n, "outputs:", counts[n])
		}
	}
}

// TestApplyLarge has words with very many paths, points or outputs.
func TestApplyLarge(t *testing.T) {
	ones, twos := slices.Repeat([]int{1}, api.MaxText), slices.Repeat([]int{2}, api.MaxText)
	// Each symbol can be read in several ways, alone or with the next one.
	ways := fst.Star(fst.Or(fst.Word(ones[:1], twos[:1]), fst.Or(fst.Word(ones[:2], twos[:2]), fst.Word(ones[:1], twos[:1]))))
	applied(t, "many paths", ways, ones, 1, api.OK, twos)
	applied(t, "many outputs", machine(1, []int{0}, arc(0, 1, 1, 0), arc(0, 1, 2, 0)), ones, 64, api.ErrLimit)
	applied(t, "many lengths", example(), make([]int, 63), 64, api.OK, lengthsUpTo(63)...)
	applied(t, "many lengths", example(), make([]int, 64), 64, api.ErrLimit)
	applied(t, "many lengths", example(), make([]int, 1024), 64, api.ErrLimit)
	// Before each symbol, any number of outputs up to 2047.
	exits := ring(api.MaxStates, eps, 1)
	for s := range api.MaxStates - 1 {
		exits.Arcs[s+1].In = eps
		exits.Arcs = append(exits.Arcs, arc(s, eps, eps, api.MaxStates-1))
	}
	exits.Arcs[api.MaxStates-1] = arc(api.MaxStates-1, 1, eps, 0)
	applied(t, "many lengths", exits, ones, 64, api.ErrLimit)
	applied(t, "many lengths", exits, ones[:2], 64, api.ErrLimit)
	// One long output.
	slow := ring(api.MaxStates, eps, 2)
	slow.Arcs[api.MaxStates-1].In = 1
	applied(t, "a long output", slow, ones[:100], 1, api.OK, slices.Repeat([]int{2}, 100*api.MaxStates))
	// All states are reached everywhere.
	r := rand.New(rand.NewSource(10))
	dense := ring(api.MaxStates, 1, eps)
	for len(dense.Arcs) < api.MaxArcs-3 {
		dense.Arcs = append(dense.Arcs, arc(r.Intn(api.MaxStates), 1, eps, r.Intn(api.MaxStates)))
	}
	dense.Arcs = append(dense.Arcs, arc(0, 0, 0, 0), arc(0, 0, 1, 0))
	applied(t, "many points", dense, ones, 1, api.OK, nil)
	applied(t, "many points", dense, append([]int{0}, ones[1:]...), 2, api.OK, []int{0}, []int{1})
	applied(t, "many points", dense, append([]int{0}, ones[1:]...), 1, api.ErrLimit)
}

// lengthsUpTo are the lists of any number of 1 up to n.
func lengthsUpTo(n int) [][]int {
	var l [][]int
	for i := range n + 1 {
		l = append(l, slices.Repeat([]int{1}, i))
	}
	return l
}
