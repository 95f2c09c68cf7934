package automaton_test

import (
	"math/rand"
	"slices"
	"testing"

	"wordbook/api"
	"wordbook/automaton"
)

func and(p, q bool) bool { return p && q }
func or(p, q bool) bool  { return p || q }
func xor(p, q bool) bool { return p != q }

func TestBothEither(t *testing.T) {
	for _, x := range []struct{ a, b, both, either api.DFA }{
		{ending(), ending(), ending(), ending()}, {ending(), all(2), ending(), all(2)}, {ending(), nothing(2), nothing(2), ending()}, {all(64), nothing(64), nothing(64), all(64)},
		{ending(), inverted(ending()), nothing(2), all(2)}, {lasso(1, 2, 0, 0), lasso(1, 3, 0, 0), lasso(1, 6, 0, 0), lasso(1, 6, 0, 0, 2, 3, 4)}, {lasso(2, 6, 0, 0, 3), lasso(2, 9, 0, 0, 3, 6), lasso(2, 3, 0, 0), lasso(2, 3, 0, 0)},
		{ending(), dfa(2, []int{0}, []int{0, 1}, []int{1, 1}), nothing(2), dfa(2, []int{0, 1}, []int{0, 1}, []int{2, 1}, []int{2, 1})},
	} {
		for range 2 {
			d, code := automaton.Both(x.a, x.b)
			found(t, "P8.4: Both", d, code, x.both)
			d, code = automaton.Either(x.a, x.b)
			found(t, "P8.4: Either", d, code, x.either)
			x.a, x.b = x.b, x.a
		}
	}
	for _, sizes := range [][2]int{{1, 2}, {2, 1}, {64, 63}, {63, 64}} {
		for _, f := range []func(a, b api.DFA) (api.DFA, api.Errno){automaton.Both, automaton.Either} {
			d, code := f(all(sizes[0]), all(sizes[1]))
			fails(t, "P8.4: different Sizes", d, code, api.ErrArg)
			d, code = f(lasso(sizes[0], 47, 0), lasso(sizes[1], 45, 0))
			fails(t, "P8.4: different Sizes", d, code, api.ErrArg)
		}
	}
}

// TestPairsLimit counts pairs of the states of the automata as they are given.
func TestPairsLimit(t *testing.T) {
	full := func(d api.DFA) api.DFA {
		for s := range d.Final {
			d.Final[s] = true
		}
		return d
	}
	// Two cycles, one of them behind a state to which nothing leads back.
	great := lasso(1, api.MaxStates, 0)
	tail := lasso(1, 2, 1)
	if len(productBy(great, tail, or).Next) != api.MaxStates+1 {
		t.Fatal("the pairs are not counted rightly")
	}
	for name, x := range map[string]struct {
		a, b  api.DFA
		limit bool
	}{
		"one state":               {great, all(1), false},
		"a part of a cycle":       {great, lasso(1, 2, 0), false},
		"a half of a cycle":       {great, lasso(1, 1024, 0), false},
		"one pair too many":       {great, tail, true},
		"one pair too many, full": {full(copyOf(great)), full(copyOf(tail)), true},
		"43 and 47":               {lasso(3, 43, 0), lasso(3, 47, 0), false},
		"32 and 64":               {lasso(3, 32, 0), lasso(3, 64, 0), false},
		"45 and 46":               {lasso(3, 45, 0), lasso(3, 46, 0), true},
		"45 and 46, full":         {full(lasso(3, 45, 0)), full(lasso(3, 46, 0)), true},
		"89 and 23":               {lasso(1, 89, 0), lasso(1, 23, 0), false},
		"89 and 23, and a tail":   {lasso(1, 90, 1), lasso(1, 23, 0), false},
		"89 and 23, and two":      {lasso(1, 91, 2), lasso(1, 23, 0), true},
		"47 and 89":               {lasso(1, 47, 0), lasso(1, 89, 0), true},
		"not reached":             {dfa(1, nil, append(make([][]int, 0, 2048), append([][]int{{0}}, slices.Repeat([][]int{{1}}, 2047)...)...)...), great, false},
	} {
		pairs := len(productBy(x.a, x.b, or).Next)
		if x.limit != (pairs > api.MaxStates) {
			t.Fatalf("%s: %d pairs", name, pairs)
		}
		for range 2 {
			for _, f := range []func(a, b api.DFA) (api.DFA, api.Errno){automaton.Both, automaton.Either} {
				d, code := f(x.a, x.b)
				if x.limit {
					fails(t, "P8.4: "+name, d, code, api.ErrLimit)
				} else if code != api.OK || !automaton.Valid(d) {
					t.Errorf("P8.4: %s: error %d", name, code)
				}
			}
			x.a, x.b = x.b, x.a
		}
	}
	d, code := automaton.Both(great, lasso(1, 2047, 0))
	fails(t, "P8.4: many more pairs", d, code, api.ErrLimit)
}

func TestRandomBothEither(t *testing.T) {
	r := rand.New(rand.NewSource(21))
	states := map[int]int{}
	for range 3000 {
		size := 1 + r.Intn(3)
		a, b := randomDFA(r, size, 1+r.Intn(7)), randomDFA(r, size, 1+r.Intn(7))
		both, code := automaton.Both(a, b)
		if want := minBy(productBy(a, b, and)); code != api.OK || !equal(both, want) {
			t.Fatalf("P8.4: Both(%v, %v) = %v, want %v", a, b, both, want)
		}
		either, code := automaton.Either(a, b)
		if want := minBy(productBy(a, b, or)); code != api.OK || !equal(either, want) {
			t.Fatalf("P8.4: Either(%v, %v) = %v, want %v", a, b, either, want)
		}
		states[min(len(both.Next), 6)]++
		noA, noB := automaton.Not(a), automaton.Not(b)
		if d, code := automaton.Either(noA, noB); code != api.OK || !equal(d, automaton.Not(both)) {
			t.Fatalf("P8.9: Not of Both of %v and %v is not Either of their Nots", a, b)
		}
		if d, code := automaton.Both(noA, noB); code != api.OK || !equal(d, automaton.Not(either)) {
			t.Fatalf("P8.9: Not of Either of %v and %v is not Both of their Nots", a, b)
		}
		if !equal(automaton.Not(noA), automaton.Min(a)) {
			t.Fatalf("P8.9: Not of Not of %v", a)
		}
		for _, length := range []int{0, 1, 2, 3, 7, 50, 1024} {
			if automaton.Count(a, length)+automaton.Count(b, length) != automaton.Count(both, length)+automaton.Count(either, length) {
				t.Fatalf("P8.9: the counts of %v and %v are not those of Both and Either, for the length %d", a, b, length)
			}
		}
	}
	for n := range 6 {
		if states[n+1] < 50 {
			t.Error("Both has these numbers of states:", states)
		}
	}
}

func TestReverse(t *testing.T) {
	for _, x := range [][2]api.DFA{
		{ending(), dfa(2, []int{2}, []int{1, 2}, []int{1, 1}, []int{2, 2})}, {dfa(2, []int{2}, []int{1, 2}, []int{1, 1}, []int{2, 2}), ending()}, {all(64), all(64)}, {nothing(64), nothing(64)}, {nothing(1), nothing(1)},
		{lasso(3, 4, 0, 1), lasso(3, 4, 0, 1)}, {lasso(1, 6, 2, 0, 1, 2), lasso(1, 6, 2, 0, 1, 2)},
		// The words 0 1 and 0 0 0.
		{dfa(2, []int{3, 5}, []int{1, 4}, []int{2, 3}, []int{5, 4}, []int{4, 4}, []int{4, 4}, []int{4, 4}), dfa(2, []int{4}, []int{1, 2}, []int{2, 3}, []int{4, 3}, []int{3, 3}, []int{3, 3})},
		// States that are not reached, or alike.
		{lasso(3, 5, 2, 0, 1, 2, 3, 4), all(3)}, {dfa(2, []int{1}, []int{0, 0}, []int{0, 1}), nothing(2)},
	} {
		d, code := automaton.Reverse(x[0])
		found(t, "P8.5: Reverse", d, code, x[1])
	}
}

// before is the canonical automaton of the words over 0 and 1 in which 0 stands behind the first n symbols, with a state more if Size is 3: then nothing leads on from it.
func before(n, size int) api.DFA {
	d := dfa(size, nil)
	for s := range n {
		d.Next = append(d.Next, []int{s + 1, s + 1})
	}
	d.Next = append(d.Next, []int{n + 1, n + 2}, []int{n + 1, n + 1}, []int{n + 2, n + 2})
	if size == 3 {
		for s := range d.Next {
			d.Next[s] = append(d.Next[s], n+2)
		}
	}
	d.Final = make([]bool, len(d.Next))
	d.Final[n+1] = true
	return d
}

// TestSetsLimit counts sets of the states of the canonical automaton.
func TestSetsLimit(t *testing.T) {
	for _, x := range []struct{ n, size, states int }{{9, 2, 1024}, {9, 3, 1025}, {10, 2, 2048}, {10, 3, 0}, {11, 2, 0}, {11, 3, 0}, {40, 2, 0}} {
		d, code := automaton.Reverse(before(x.n, x.size))
		if x.states == 0 {
			fails(t, "P8.5: Reverse of many sets", d, code, api.ErrLimit)
			continue
		}
		if code != api.OK || len(d.Next) != x.states || !equal(automaton.Min(d), d) {
			t.Errorf("P8.5: Reverse: error %d and %d states, want %d", code, len(d.Next), x.states)
		}
		back, code := automaton.Reverse(d)
		if m := automaton.Min(before(x.n, x.size)); code != api.OK || !equal(back, m) {
			t.Errorf("P8.9: Reverse of Reverse: error %d and %v, want %v", code, short(back), short(m))
		}
	}
	// Many sets of states that are not reached, or all alike, do not count.
	far := before(12, 2)
	for s := range far.Next {
		far.Next[s][0]++
		far.Next[s][1]++
	}
	d := api.DFA{Size: 2, Next: append([][]int{{0, 0}}, far.Next...), Final: append([]bool{true}, far.Final...)}
	got, code := automaton.Reverse(d)
	found(t, "P8.5: Reverse of an automaton with states that are not reached", got, code, all(2))
	alike := before(12, 2)
	for s := range alike.Final {
		alike.Final[s] = true
	}
	got, code = automaton.Reverse(alike)
	found(t, "P8.5: Reverse of an automaton with states that are alike", got, code, all(2))
	long := lasso(64, api.MaxStates, api.MaxStates-1, api.MaxStates-2)
	got, code = automaton.Reverse(long)
	found(t, "P8.5: Reverse of many states", got, code, long)
}

func TestRandomReverse(t *testing.T) {
	r := rand.New(rand.NewSource(22))
	changed, states := 0, 0
	for range 3000 {
		d := randomDFA(r, 1+r.Intn(3), 1+r.Intn(7))
		back, code := automaton.Reverse(d)
		if want := minBy(reverseBy(d)); code != api.OK || !equal(back, want) {
			t.Fatalf("P8.5: Reverse(%v) = %v, want %v", d, back, want)
		}
		m := automaton.Min(d)
		if again, code := automaton.Reverse(back); code != api.OK || !equal(again, m) {
			t.Fatalf("P8.9: Reverse of Reverse of %v is %v", d, again)
		}
		for _, w := range wordsUpTo(4, d.Size) {
			turned := slices.Clone(w)
			slices.Reverse(turned)
			if automaton.Accepts(back, turned) != acceptsBy(d, w) {
				t.Fatalf("P8.5: Reverse(%v) and %v", d, turned)
			}
		}
		if !equal(back, m) {
			changed++
		}
		if len(back.Next) > 5 {
			states++
		}
	}
	if changed < 400 || states < 300 {
		t.Error("these are others than Min, and have many states:", changed, states)
	}
}
