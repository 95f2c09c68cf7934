package fst_test

import (
	"math/rand"
	"slices"
	"testing"

	"wordbook/api"
	"wordbook/automaton"
	"wordbook/fst"
)

// domain checks Domain.
func domain(t *testing.T, what string, u api.FST, size int, want api.DFA) {
	t.Helper()
	d, code := fst.Domain(u, size)
	if code != api.OK || !equalDFA(d, want) {
		t.Errorf("P9.8: %s: error %d and an automaton of %d states, want %d states", what, code, len(d.Next), len(want.Next))
	}
}

// noDomain checks an error of Domain.
func noDomain(t *testing.T, what string, u api.FST, size int, want api.Errno) {
	t.Helper()
	if d, code := fst.Domain(u, size); code != want || d.Size != 0 || d.Next != nil || d.Final != nil {
		t.Errorf("P9.8: %s: error %d, want %d, and %d states", what, code, want, len(d.Next))
	}
}

// loop is the canonical automaton of all words, or of none.
func loop(size int, final bool) api.DFA {
	return api.DFA{Size: size, Next: [][]int{make([]int, size)}, Final: []bool{final}}
}

func TestDomain(t *testing.T) {
	for _, x := range []struct {
		u    api.FST
		size int
		want api.DFA
	}{
		{nothing(), 1, loop(1, false)}, {nothing(), 64, loop(64, false)}, {example(), 1, loop(1, true)}, {machine(1, []int{0}), 1, api.DFA{Size: 1, Next: [][]int{{1}, {1}}, Final: []bool{true, false}}},
		{example(), 2, api.DFA{Size: 2, Next: [][]int{{0, 1}, {1, 1}}, Final: []bool{true, false}}},
		// Symbols from size on do not count.
		{machine(2, []int{1}, arc(0, 2, 1, 1)), 2, loop(2, false)}, {machine(2, []int{1}, arc(0, 63, 1, 1), arc(0, 0, 0, 0)), 63, loop(63, false)}, {machine(1, []int{0}, arc(0, 1, 1, 0), arc(0, 0, 1, 0)), 1, loop(1, true)},
		// Arcs that read nothing stand before, between and behind symbols.
		{machine(4, []int{3}, arc(0, eps, 1, 1), arc(1, 0, 1, 2), arc(2, eps, eps, 3)), 1, api.DFA{Size: 1, Next: [][]int{{1}, {2}, {2}}, Final: []bool{false, true, false}}},
		{machine(3, []int{2}, arc(0, eps, 1, 1), arc(1, eps, 1, 2), arc(2, 0, 0, 0)), 1, loop(1, true)}, {machine(2, []int{1}, arc(0, eps, 1, 0), arc(0, eps, 1, 1), arc(1, eps, 1, 0)), 1, api.DFA{Size: 1, Next: [][]int{{1}, {1}}, Final: []bool{true, false}}},
		// A word with infinitely many outputs has one.
		{fst.Invert(example()), 2, api.DFA{Size: 2, Next: [][]int{{1, 0}, {1, 1}}, Final: []bool{true, false}}},
		{fst.Word([]int{63}, nil), 64, api.DFA{Size: 64, Next: [][]int{append(slices.Repeat([]int{1}, 63), 2), slices.Repeat([]int{1}, 64), slices.Repeat([]int{1}, 64)}, Final: []bool{false, false, true}}},
	} {
		domain(t, "Domain", x.u, x.size, x.want)
	}
	for _, n := range append(extremes, 0, -1, api.Symbols+1) {
		noDomain(t, "size", example(), n, api.ErrArg)
		noDomain(t, "size", nothing(), n, api.ErrArg)
	}
}

func TestRandomDomain(t *testing.T) {
	r := rand.New(rand.NewSource(11))
	states := 0
	for range 5000 {
		u, size := random(r, 3, 1+r.Intn(5), 9), 1+r.Intn(4)
		want := automaton.Min(domainBy(u, size))
		domain(t, "random", u, size, want)
		if t.Failed() {
			t.Fatalf("by %v", u)
		}
		if len(want.Next) > 2 {
			states++
		}
		for _, w := range wordsUpTo(3, size) {
			l, code := fst.Apply(u, w, 1)
			if automaton.Accepts(want, w) != (code != api.OK || len(l) > 0) {
				t.Fatalf("P9.11: Domain of %v for %v", u, w)
			}
		}
	}
	if states < 500 {
		t.Error("these have more than 2 states:", states)
	}
}

func TestDomainOf(t *testing.T) {
	r := rand.New(rand.NewSource(12))
	for range 3000 {
		d := randomDFA(r, 1+r.Intn(3), 1+r.Intn(6))
		domain(t, "P9.11: that of Of", fst.Of(d), d.Size, automaton.Min(d))
		u := random(r, d.Size, 1+r.Intn(4), 7)
		with, _ := fst.Domain(u, d.Size)
		want, _ := automaton.Both(d, with)
		domain(t, "P9.11: that of Of, composed", composed(t, fst.Of(d), u), d.Size, want)
		if t.Failed() {
			t.Fatalf("%v and %v", d, u)
		}
	}
}

// nth reads words of 0 and 1 that have a 1 at the n-th place from their end: a set of states says which of the last n symbols are 1.
func nth(n int) api.FST {
	u := machine(n+1, []int{n}, arc(0, 0, 0, 0), arc(0, 1, 1, 0), arc(0, 1, eps, 1))
	for s := 1; s < n; s++ {
		u.Arcs = append(u.Arcs, arc(s, 0, 0, s+1), arc(s, 1, 1, s+1))
	}
	return u
}

func TestDomainLimit(t *testing.T) {
	great := ring(api.MaxStates, 0, eps)
	for name, x := range map[string]struct {
		u    api.FST
		size int
		sets int
	}{
		"a ring":                                      {great, 1, 2048},
		"a ring, and no state":                        {great, 2, 2049},
		"a chain, and no state":                       {chain(2047, 0, 0), 1, 2048},
		"a longer chain, and no state":                {chain(2048, 0, 0), 1, 2049},
		"a chain without an end":                      {machine(2047, nil, chain(2047, 0, 0).Arcs...), 1, 2048},
		"a longer chain without an end":               {machine(2048, nil, chain(2048, 0, 0).Arcs...), 1, 2049},
		"a chain behind another symbol":               {machine(2048, []int{2047}, append(chain(2048, 0, 0).Arcs[1:], arc(0, 9, 9, 1))...), 9, 2},
		"a chain behind a symbol":                     {machine(2048, []int{2047}, append(chain(2048, 0, 0).Arcs[1:], arc(0, 9, 9, 1))...), 10, 2049},
		"the last 11 symbols":                         {nth(11), 2, 2048},
		"the last 12 symbols":                         {nth(12), 2, 4096},
		"the last 11 symbols, and no state":           {nth(11), 3, 2049},
		"the last 12 symbols, one of which is read":   {nth(12), 1, 1},
		"a ring behind arcs that read nothing":        {machine(2048, []int{7}, append(ring(2047, 0, 0).Arcs, arc(2047, eps, 1, 0))...), 1, 2047},
		"a chain whose states are reached everywhere": {everywhere(), 1, 2},
	} {
		if d := domainBy(x.u, x.size); len(d.Next) != x.sets {
			t.Fatalf("%s: %d sets", name, len(d.Next))
		} else if x.sets > api.MaxStates {
			noDomain(t, name, x.u, x.size, api.ErrLimit)
		} else {
			domain(t, name, x.u, x.size, automaton.Min(d))
		}
	}
}

// everywhere is a chain of arcs that read nothing, from the greatest state to the least one.
func everywhere() api.FST {
	u := machine(api.MaxStates, []int{1}, arc(0, eps, eps, api.MaxStates-1), arc(1, 0, eps, api.MaxStates-2))
	for s := 2; s < api.MaxStates; s++ {
		u.Arcs = append(u.Arcs, arc(s, eps, 1, s-1))
	}
	return u
}
