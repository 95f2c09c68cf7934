package automaton_test

import (
	"math/rand"
	"slices"
	"testing"

	"wordbook/api"
	"wordbook/automaton"
)

// least checks a least word, or that there is none, if want is nil.
func least(t *testing.T, what string, w []int, ok bool, want []int) {
	t.Helper()
	if ok != (want != nil) || !slices.Equal(w, want) {
		t.Errorf("%s: %v, %v, want %v", what, w, ok, want)
	}
}

func TestLeast(t *testing.T) {
	for _, x := range []struct {
		d    api.DFA
		want []int
	}{
		{ending(), []int{1}}, {all(1), []int{}}, {all(64), []int{}}, {nothing(1), nil}, {nothing(64), nil}, {lasso(3, 4, 0, 2), []int{0, 0}}, {lasso(3, 4, 0, 3, 2), []int{0, 0}}, {dfa(2, []int{1}, []int{0, 0}, []int{0, 1}), nil},
		// The shortest one is not the first one in lexicographic order.
		{dfa(2, []int{2}, []int{1, 2}, []int{2, 1}, []int{0, 0}), []int{1}}, {dfa(3, []int{3}, []int{1, 2, 0}, []int{0, 2, 1}, []int{2, 2, 3}, []int{3, 3, 3}), []int{1, 2}},
		// The shortest ones lead to different states; those that are numbered first are not reached by the first one.
		{dfa(2, []int{1, 2}, []int{3, 4}, []int{0, 0}, []int{0, 0}, []int{0, 2}, []int{1, 0}), []int{0, 1}}, {dfa(2, []int{1, 2}, []int{4, 3}, []int{0, 0}, []int{0, 0}, []int{2, 0}, []int{0, 1}), []int{0, 1}},
		// A state is reached by several words of the same length.
		{dfa(3, []int{3}, []int{0, 2, 1}, []int{3, 3, 3}, []int{0, 3, 3}, []int{0, 0, 0}), []int{1, 1}},
	} {
		w, ok := automaton.Least(x.d)
		least(t, "P8.6: Least", w, ok, x.want)
	}
	w, ok := automaton.Least(lasso(64, api.MaxStates, 0, api.MaxStates-1))
	least(t, "P8.6: the least word of many states", w, ok, repeated(api.MaxStates-1, 0))
	r := rand.New(rand.NewSource(31))
	lengths := map[int]int{}
	for range 3000 {
		d := randomDFA(r, 1+r.Intn(3), 1+r.Intn(7))
		want, some := leastBy(wordsUpTo(len(d.Next)-1, d.Size), func(w []int) bool { return acceptsBy(d, w) })
		w, ok := automaton.Least(d)
		if ok != some || !slices.Equal(w, want) {
			t.Fatalf("P8.6: Least(%v) = %v, %v, want %v", d, w, ok, want)
		}
		lengths[len(want)]++
	}
	if lengths[0] < 100 || lengths[1] < 100 || lengths[2] < 100 || lengths[3] < 30 {
		t.Error("the words have these lengths:", lengths)
	}
}

func TestDiffer(t *testing.T) {
	for _, x := range []struct {
		a, b api.DFA
		want []int
	}{
		{ending(), ending(), nil}, {all(1), all(1), nil}, {all(64), nothing(64), []int{}}, {ending(), all(2), []int{}}, {ending(), nothing(2), []int{1}}, {all(2), lasso(2, 5, 3, 0, 1, 2, 3, 4), nil},
		{lasso(1, 2, 0, 0), lasso(1, 3, 0, 0), []int{0, 0}}, {lasso(2, 2, 0, 0), lasso(2, 4, 0, 0), []int{0, 0}}, {lasso(2, 2, 0, 0), lasso(2, 4, 0, 0, 2), nil},
		{lasso(1, 2, 0), lasso(1, 2, 0), nil}, {all(1), all(2), nil}, {all(1), nothing(2), nil}, {nothing(64), all(63), nil},
		// One of them has a state that the other one has not.
		{ending(), dfa(2, []int{1, 2}, []int{0, 1}, []int{2, 1}, []int{0, 1}), []int{1, 0}}, {dfa(2, []int{1}, []int{0, 1}, []int{1, 2}, []int{2, 0}), dfa(2, []int{1}, []int{0, 1}, []int{1, 0}), []int{1, 1, 1}},
	} {
		for range 2 {
			w, ok := automaton.Differ(x.a, x.b)
			least(t, "P8.6: Differ", w, ok, x.want)
			x.a, x.b = x.b, x.a
		}
	}
}

// TestDifferMany compares automata with many states; the pairs of these would be too many.
func TestDifferMany(t *testing.T) {
	long := lasso(64, api.MaxStates, api.MaxStates-1, api.MaxStates-1)
	w, ok := automaton.Differ(long, nothing(64))
	least(t, "P8.6: Differ", w, ok, repeated(api.MaxStates-1, 0))
	full := func(d api.DFA, but int) api.DFA {
		for s := range d.Final {
			d.Final[s] = s != but
		}
		return d
	}
	a, b := full(lasso(64, 2047, 0), -1), full(lasso(64, 2048, 0), -1)
	w, ok = automaton.Differ(a, b)
	least(t, "P8.6: two cycles", w, ok, nil)
	w, ok = automaton.Differ(full(a, 2046), b)
	least(t, "P8.6: two cycles", w, ok, repeated(2046, 0))
	// Words that differ must be of the length 2046 in the one cycle and 2047 in the other one, or longer by these cycles.
	w, ok = automaton.Differ(full(lasso(1, 2048, 2047), 2047), full(lasso(1, 2047, 2046), -1))
	least(t, "P8.6: a cycle of one state", w, ok, repeated(2047, 0))
	// Each symbol is another step, so that very many pairs are reached.
	step := func(states, start int) api.DFA {
		d := dfa(64, nil)
		for s := range states {
			row := make([]int, 64)
			for x := range row {
				row[x] = (s + x*x + start) % states
			}
			d.Next = append(d.Next, row)
		}
		d.Final = make([]bool, states)
		return d
	}
	w, ok = automaton.Differ(step(2048, 1), step(2047, 3))
	least(t, "P8.6: many pairs", w, ok, nil)
	w, ok = automaton.Differ(full(step(2048, 1), -1), full(step(2047, 3), -1))
	least(t, "P8.6: many pairs", w, ok, nil)
}

// TestRandomDiffer compares automata with others that differ little from them, so that the words are long.
func TestRandomDiffer(t *testing.T) {
	r := rand.New(rand.NewSource(32))
	lengths := map[int]int{}
	for range 6000 {
		a := randomDFA(r, 1+r.Intn(3), 1+r.Intn(12))
		b := shuffled(r, a)
		for range r.Intn(3) {
			s := r.Intn(len(b.Next))
			if r.Intn(2) == 0 {
				b.Final[s] = !b.Final[s]
			} else {
				b.Next[s][r.Intn(b.Size)] = r.Intn(len(b.Next))
			}
		}
		if r.Intn(8) == 0 {
			b = randomDFA(r, a.Size, 1+r.Intn(12))
		}
		want, some := automaton.Least(productBy(a, b, xor))
		for range 2 {
			w, ok := automaton.Differ(a, b)
			if ok != some || !slices.Equal(w, want) {
				t.Fatalf("P8.6: Differ(%v, %v) = %v, %v, want %v", a, b, w, ok, want)
			}
			a, b = b, a
		}
		if same := equal(automaton.Min(a), automaton.Min(b)); same == some {
			t.Fatalf("P8.8: Min(%v) and Min(%v): %v", a, b, same)
		}
		if some {
			lengths[len(want)]++
		} else {
			lengths[-1]++
		}
	}
	for n := -1; n < 5; n++ {
		if lengths[n] < 100 {
			t.Error("the words have these lengths:", lengths)
		}
	}
}

// TestUnaryDiffer compares cycles with tails; the words have only lengths.
func TestUnaryDiffer(t *testing.T) {
	r := rand.New(rand.NewSource(33))
	longest := 0
	for range 3000 {
		finals := func(states int) []int {
			var l []int
			for s := range states {
				if r.Intn(states+1) > 0 {
					l = append(l, s)
				}
			}
			return l
		}
		m, n := 1+r.Intn(30), 1+r.Intn(30)
		a, b := lasso(1, m, r.Intn(m), finals(m)...), lasso(1, n, r.Intn(n), finals(n)...)
		p, q, length := 0, 0, 0
		for ; length < 2000 && a.Final[p] == b.Final[q]; length++ {
			p, q = a.Next[p][0], b.Next[q][0]
		}
		w, ok := automaton.Differ(a, b)
		if ok != (length < 2000) || ok && !slices.Equal(w, repeated(length, 0)) {
			t.Fatalf("P8.6: Differ(%v, %v) = %v, %v, want the length %d", a, b, w, ok, length)
		}
		longest = max(longest, len(w))
	}
	if longest < 30 {
		t.Error("the longest word has this length:", longest)
	}
}
