package automaton_test

import (
	"math/rand"
	"slices"
	"testing"

	"wordbook/api"
	"wordbook/automaton"
)

// ending is the canonical automaton of the words over 0 and 1 that end with 1.
func ending() api.DFA {
	return dfa(2, []int{1}, []int{0, 1}, []int{0, 1})
}

func TestValid(t *testing.T) {
	for _, d := range []api.DFA{all(1), nothing(1), all(64), nothing(64), all(63), ending(), dfa(1, []int{0, 1}, []int{1}, []int{1}), dfa(1, nil, []int{0}, []int{0}), lasso(1, api.MaxStates, 0, 1), lasso(64, api.MaxStates, api.MaxStates-1)} {
		if !automaton.Valid(d) {
			t.Errorf("P8.1: not valid: %v", short(d))
		}
	}
	for _, d := range notValid() {
		rejected(t, d)
	}
}

// rejected checks that an automaton is treated as one that is not valid, everywhere.
func rejected(t *testing.T, d api.DFA) {
	t.Helper()
	if automaton.Valid(d) {
		t.Errorf("P8.1: Valid(%v)", short(d))
	}
	for _, w := range [][]int{nil, {}, {0}, {0, 0}} {
		if automaton.Accepts(d, w) {
			t.Errorf("P8.1: Accepts(%v, %v)", short(d), w)
		}
	}
	fails(t, "P8.3: Min", automaton.Min(d), api.OK, api.OK)
	fails(t, "P8.3: Not", automaton.Not(d), api.OK, api.OK)
	for _, other := range []api.DFA{all(1), nothing(2), all(2), d} {
		for _, f := range []func(a, b api.DFA) (api.DFA, api.Errno){automaton.Both, automaton.Either} {
			n, code := f(d, other)
			fails(t, "P8.4", n, code, api.ErrArg)
			n, code = f(other, d)
			fails(t, "P8.4", n, code, api.ErrArg)
		}
		for _, pair := range [][2]api.DFA{{d, other}, {other, d}} {
			if w, ok := automaton.Differ(pair[0], pair[1]); ok || len(w) > 0 {
				t.Errorf("P8.6: Differ of %v and %v: %v, %v", short(pair[0]), short(pair[1]), w, ok)
			}
		}
	}
	n, code := automaton.Reverse(d)
	fails(t, "P8.5", n, code, api.ErrArg)
	if w, ok := automaton.Least(d); ok || len(w) > 0 {
		t.Errorf("P8.6: Least(%v) = %v, %v", short(d), w, ok)
	}
	for _, length := range []int{0, 1, 2, 1024, -1, 1025} {
		if c := automaton.Count(d, length); c != 0 {
			t.Errorf("P8.7: Count(%v, %d) = %d", short(d), length, c)
		}
	}
}

// TestRandomValid changes one part of an automaton, so that it may be valid or not.
func TestRandomValid(t *testing.T) {
	r := rand.New(rand.NewSource(1))
	results := map[bool]int{}
	for range 20000 {
		d := randomDFA(r, 1+r.Intn(3), 1+r.Intn(4))
		valid := true
		s := r.Intn(len(d.Next))
		switch r.Intn(6) {
		case 0:
			n := r.Intn(6) - 1
			d.Next[s][r.Intn(d.Size)] = n
			valid = n >= 0 && n < len(d.Next)
		case 1:
			n := r.Intn(5)
			valid = n == d.Size
			d.Size = n
		case 2:
			d.Next[s] = d.Next[s][1:]
			valid = false
		case 3:
			d.Next[s] = append(d.Next[s], 0)
			valid = false
		case 4:
			d.Final = d.Final[1:]
			valid = false
		}
		results[valid]++
		if automaton.Valid(d) != valid {
			t.Fatalf("P8.1: Valid(%v) = %v", d, !valid)
		}
	}
	if results[true] < 3000 || results[false] < 3000 {
		t.Error("these are valid and not:", results)
	}
}

func TestAccepts(t *testing.T) {
	for _, x := range []struct {
		d    api.DFA
		w    []int
		want bool
	}{
		{ending(), nil, false}, {ending(), []int{1}, true}, {ending(), []int{0}, false}, {ending(), []int{0, 1, 1, 0, 1}, true}, {ending(), []int{1, 1, 1, 0}, false},
		{all(1), nil, true}, {all(1), []int{0, 0}, true}, {nothing(1), nil, false}, {nothing(1), []int{0}, false}, {all(64), []int{0, 63, 62}, true}, {all(63), []int{63}, false}, {all(2), []int{1, 2}, false}, {all(2), []int{2, 1}, false},
	} {
		if got := automaton.Accepts(x.d, x.w); got != x.want {
			t.Errorf("P8.1: Accepts(%v, %v) = %v", x.d, x.w, got)
		}
	}
	for _, n := range append(extremes, 64, 65, 128) {
		for _, w := range [][]int{{n}, {0, n}, {n, 0}, {0, n, 0}} {
			if automaton.Accepts(all(64), w) || automaton.Accepts(all(2), w) {
				t.Errorf("P8.1: a word with %d is accepted", n)
			}
		}
	}
	r := rand.New(rand.NewSource(2))
	results := map[bool]int{}
	for range 5000 {
		d := randomDFA(r, 1+r.Intn(4), 1+r.Intn(9))
		for range 5 {
			var w []int
			for range r.Intn(8) {
				w = append(w, r.Intn(d.Size))
			}
			if len(w) > 0 && r.Intn(5) == 0 {
				w[r.Intn(len(w))] = d.Size - 2*r.Intn(2)*d.Size - r.Intn(2)
			}
			got := automaton.Accepts(d, w)
			if got != acceptsBy(d, w) {
				t.Fatalf("P8.1: Accepts(%v, %v) = %v", d, w, got)
			}
			results[got]++
		}
	}
	if results[true] < 5000 || results[false] < 5000 {
		t.Error("these are accepted and not:", results)
	}
}

// canonicals are automata with their canonical ones.
func canonicals() [][2]api.DFA {
	return [][2]api.DFA{
		{ending(), ending()}, {all(1), all(1)}, {nothing(64), nothing(64)},
		// All states are alike.
		{lasso(3, 5, 2, 0, 1, 2, 3, 4), all(3)}, {lasso(3, 5, 2), nothing(3)}, {lasso(1, api.MaxStates, 7), nothing(1)},
		// Some states are not reached.
		{dfa(2, []int{1}, []int{0, 0}, []int{0, 1}), nothing(2)}, {dfa(1, []int{0}, []int{0}, []int{1}, []int{1}), all(1)}, {dfa(2, []int{3}, []int{0, 3}, []int{1, 2}, []int{3, 3}, []int{0, 3}), ending()},
		// A cycle of which a part repeats itself.
		{lasso(1, 6, 0, 0, 3), lasso(1, 3, 0, 0)}, {lasso(1, 6, 0, 0, 2, 4), lasso(1, 2, 0, 0)}, {lasso(1, 6, 0, 0, 2, 3), lasso(1, 6, 0, 0, 2, 3)}, {lasso(2, 7, 3, 0, 4, 6), lasso(2, 5, 3, 0, 4)},
		// The states are numbered anew: breadth first, and the lesser symbol first.
		{dfa(2, []int{1}, []int{2, 1}, []int{1, 1}, []int{2, 2}), dfa(2, []int{2}, []int{1, 2}, []int{1, 1}, []int{2, 2})},
		{dfa(2, []int{1, 3}, []int{3, 2}, []int{2, 2}, []int{1, 0}, []int{0, 3}), dfa(2, []int{1, 3}, []int{1, 2}, []int{0, 1}, []int{3, 0}, []int{2, 2})},
		{dfa(3, []int{4}, []int{0, 3, 1}, []int{4, 1, 1}, []int{2, 4, 2}, []int{3, 2, 3}, []int{4, 4, 4}), dfa(3, []int{4}, []int{0, 1, 2}, []int{1, 3, 1}, []int{4, 2, 2}, []int{3, 4, 3}, []int{4, 4, 4})},
	}
}

func TestMin(t *testing.T) {
	for _, x := range canonicals() {
		is(t, "P8.3: Min", automaton.Min(x[0]), x[1])
		is(t, "P8.3: Min of Min", automaton.Min(x[1]), x[1])
		is(t, "P8.3: Not", automaton.Not(x[0]), inverted(x[1]))
		is(t, "P8.3: Not of what is not accepted", automaton.Not(inverted(x[0])), x[1])
	}
	is(t, "Not of all", automaton.Not(all(5)), nothing(5))
	is(t, "Not of nothing", automaton.Not(nothing(5)), all(5))
	long := lasso(64, api.MaxStates, api.MaxStates-1, api.MaxStates-1)
	is(t, "Min of many states", automaton.Min(long), long)
	is(t, "Not of many states", automaton.Not(long), inverted(long))
	round := lasso(64, api.MaxStates, 0, api.MaxStates/2)
	is(t, "Min of a great cycle", automaton.Min(round), round)
	even := lasso(64, api.MaxStates, 0)
	for s := range even.Final {
		even.Final[s] = s%2 == 0
	}
	is(t, "Min of many states that are alike", automaton.Min(even), lasso(64, 2, 0, 0))
}

func TestRandomMin(t *testing.T) {
	r := rand.New(rand.NewSource(3))
	fewer, different := 0, 0
	for range 6000 {
		d := randomDFA(r, 1+r.Intn(4), 1+r.Intn(14))
		want := minBy(d)
		m := automaton.Min(d)
		if !equal(m, want) {
			t.Fatalf("P8.3: Min(%v) = %v, want %v", d, m, want)
		}
		if n := automaton.Not(d); !equal(n, minBy(inverted(d))) {
			t.Fatalf("P8.3: Not(%v) = %v", d, n)
		}
		if len(m.Next) > len(d.Next) || !equal(automaton.Min(m), m) {
			t.Fatalf("P8.8: Min(%v) = %v", d, m)
		}
		if again := automaton.Min(shuffled(r, d)); !equal(again, m) {
			t.Fatalf("P8.8: Min(%v) = %v, and of other automata %v", d, m, again)
		}
		if len(m.Next) < len(d.Next) {
			fewer++
		}
		if len(m.Next) > 3 {
			different++
		}
	}
	if fewer < 1000 || different < 1000 {
		t.Error("these have fewer states, and more than 3:", fewer, different)
	}
	for range 20 {
		d := randomDFA(r, 1+r.Intn(5), 150+r.Intn(60))
		if m := automaton.Min(d); !equal(m, minBy(d)) {
			t.Fatal("P8.3: Min of an automaton of many states is wrong")
		}
	}
}

func TestCount(t *testing.T) {
	for _, x := range []struct {
		d      api.DFA
		length int
		want   uint64
	}{
		{ending(), 3, 4}, {ending(), 0, 0}, {ending(), 1, 1}, {ending(), 64, 1 << 63}, {ending(), 65, 0}, {all(2), 0, 1}, {all(2), 63, 1 << 63}, {all(2), 64, 0}, {all(2), 1024, 0},
		{all(1), 0, 1}, {all(1), 1024, 1}, {nothing(1), 0, 0}, {nothing(1), 1024, 0}, {all(64), 0, 1}, {all(64), 10, 1 << 60}, {all(64), 11, 0}, {all(63), 1, 63},
		{lasso(3, 3, 0, 2), 2, 9}, {lasso(3, 3, 0, 2), 3, 0}, {lasso(3, 3, 0, 2), 5, 243}, {lasso(1, api.MaxStates, 0, 1024), 1024, 1}, {lasso(1, api.MaxStates, 0, 1024), 1023, 0},
	} {
		if got := automaton.Count(x.d, x.length); got != x.want {
			t.Errorf("P8.7: Count(%v, %d) = %d, want %d", short(x.d), x.length, got, x.want)
		}
	}
	power := uint64(1)
	for length := range api.MaxText + 1 {
		if got := automaton.Count(all(3), length); got != power {
			t.Fatalf("P8.7: 3 to the power of %d is %d, modulo 2^64", length, got)
		}
		power *= 3
	}
	for _, length := range append(extremes, api.MaxText+1, api.MaxText+2) {
		if got := automaton.Count(all(1), length); got != 0 {
			t.Errorf("P8.7: Count for the length %d: %d", length, got)
		}
	}
	r := rand.New(rand.NewSource(4))
	for range 500 {
		d := randomDFA(r, 1+r.Intn(3), 1+r.Intn(10))
		counts := make([]uint64, 6)
		for _, w := range wordsUpTo(5, d.Size) {
			if acceptsBy(d, w) {
				counts[len(w)]++
			}
		}
		for length, want := range counts {
			if got := automaton.Count(d, length); got != want {
				t.Fatalf("P8.7: Count(%v, %d) = %d, want %d", d, length, got, want)
			}
		}
		for _, length := range []int{100, 1024} {
			if automaton.Count(d, length) != automaton.Count(automaton.Min(d), length) {
				t.Fatalf("P8.7: Count(%v, %d) is not that of Min", d, length)
			}
		}
	}
}

// TestMemory checks that no call changes an argument or its spare capacity, and that results are new memory, everywhere.
func TestMemory(t *testing.T) {
	r := rand.New(rand.NewSource(5))
	for range 2000 {
		a, b := roomy(randomDFA(r, 2, 1+r.Intn(6))), roomy(randomDFA(r, 2, 1+r.Intn(6)))
		beforeA, beforeB := whole(a), whole(b)
		x := random(r, 3, 0, 1)
		for _, call := range []func() api.DFA{
			func() api.DFA { return automaton.Min(a) },
			func() api.DFA { return automaton.Not(a) },
			func() api.DFA { d, _ := automaton.Both(a, b); return d },
			func() api.DFA { d, _ := automaton.Either(a, b); return d },
			func() api.DFA { d, _ := automaton.Reverse(a); return d },
			func() api.DFA { d, _ := automaton.Of(x, 2); return d },
		} {
			d := call()
			c := copyOf(d)
			for i := range d.Next { // the rows share no memory with each other
				row := d.Next[i][:cap(d.Next[i])]
				for j := range row {
					row[j] = -1 - i
				}
			}
			for i := range d.Next {
				if n := d.Next[i][0]; n != -1-i {
					t.Fatal("R4: rows share memory")
				}
			}
			for i := range d.Final[:cap(d.Final)] {
				d.Final[:cap(d.Final)][i] = true
			}
			if !equal(call(), c) {
				t.Fatal("R5: a second call returns something else")
			}
		}
		w, ok := automaton.Differ(a, b)
		if ok {
			c := slices.Clone(w)
			for i := range w[:cap(w)] {
				w[:cap(w)][i] = -1
			}
			if w, _ := automaton.Differ(a, b); !slices.Equal(w, c) {
				t.Fatal("R5: a second call returns something else")
			}
		}
		word := append(make([]int, 0, 4), 0, 1)
		automaton.Accepts(a, word)
		automaton.Least(a)
		automaton.Count(a, 5)
		if !slices.Equal(word[:4], []int{0, 1, 0, 0}) || !equal(whole(a), beforeA) || !equal(whole(b), beforeB) {
			t.Fatal("R4: an argument was changed")
		}
	}
}

// roomy is a copy of an automaton whose lists have spare capacity.
func roomy(d api.DFA) api.DFA {
	c := api.DFA{Size: d.Size, Final: append(make([]bool, 0, len(d.Final)+2), d.Final...), Next: make([][]int, 0, len(d.Next)+2)}
	for _, row := range d.Next {
		c.Next = append(c.Next, append(make([]int, 0, len(row)+2), row...))
	}
	return c
}

// whole is a copy of an automaton with its spare capacity.
func whole(d api.DFA) api.DFA {
	c := api.DFA{Size: d.Size, Final: slices.Clone(d.Final[:cap(d.Final)])}
	for _, row := range d.Next[:cap(d.Next)] {
		c.Next = append(c.Next, slices.Clone(row[:cap(row)]))
	}
	return c
}
