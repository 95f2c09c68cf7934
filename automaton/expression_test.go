package automaton_test

import (
	"math/rand"
	"slices"
	"testing"

	"wordbook/api"
	"wordbook/automaton"
	"wordbook/regex"
)

func TestOf(t *testing.T) {
	a, b, both := set(0), set(1), set(0, 1)
	for _, x := range []struct {
		r    api.Regex
		size int
		want api.DFA
	}{
		{seq(star(both), b), 2, ending()}, {alt(seq(star(both), b), seq(star(both), b, b)), 2, ending()},
		{none, 1, nothing(1)}, {none, 64, nothing(64)}, {alt(), 2, nothing(2)}, {seq(a, none), 2, nothing(2)}, {star(both), 2, all(2)}, {star(both), 1, all(1)}, {star(alt(a, b, empty)), 2, all(2)},
		{empty, 1, dfa(1, []int{0}, []int{1}, []int{1})}, {seq(), 2, dfa(2, []int{0}, []int{1, 1}, []int{1, 1})}, {star(a), 2, dfa(2, []int{0}, []int{0, 1}, []int{1, 1})},
		{a, 1, dfa(1, []int{1}, []int{1}, []int{2}, []int{2})}, {b, 2, dfa(2, []int{2}, []int{1, 2}, []int{1, 1}, []int{1, 1})}, {a, 2, dfa(2, []int{1}, []int{1, 2}, []int{2, 2}, []int{2, 2})},
		// Symbols from size on are in no word.
		{b, 1, nothing(1)}, {set(1, 63), 1, nothing(1)}, {set(1, 63), 63, dfa(63, []int{2}, append([]int{1, 2}, repeated(61, 1)...), repeated(63, 1), repeated(63, 1))}, {star(set(2, 3)), 2, dfa(2, []int{0}, []int{1, 1}, []int{1, 1})},
		{alt(seq(a, b), seq(b, a)), 1, nothing(1)}, {seq(a, star(b)), 1, dfa(1, []int{1}, []int{1}, []int{2}, []int{2})},
		// The last symbols are Plus and WordEdge.
		{set(63), 64, dfa(64, []int{2}, append(repeated(63, 1), 2), repeated(64, 1), repeated(64, 1))}, {star(set(62)), 64, dfa(64, []int{0}, append(repeated(62, 1), 0, 1), repeated(64, 1))},
		// Only the first of the states that are alike is a state, and some of them are reached in another order.
		{seq(star(alt(a, b)), star(a)), 2, all(2)}, {alt(seq(a, a), seq(b, a)), 2, dfa(2, []int{2}, []int{1, 1}, []int{2, 3}, []int{3, 3}, []int{3, 3})},
		{alt(seq(a, a), seq(b, b)), 2, dfa(2, []int{3}, []int{1, 2}, []int{3, 4}, []int{4, 3}, []int{4, 4}, []int{4, 4})},
		{star(seq(a, b)), 2, dfa(2, []int{0}, []int{1, 2}, []int{2, 0}, []int{2, 2})},
	} {
		d, code := automaton.Of(x.r, x.size)
		found(t, "P8.2: Of", d, code, x.want)
	}
}

func TestOfErrors(t *testing.T) {
	wrong := []api.Regex{{Kind: -1}, {Kind: 6}, set(), set(1, 0), set(2, 2), set(64), set(-1), {Kind: api.RxStar}, {Kind: api.RxNone, Symbols: []int{0}}, {Kind: api.RxEmpty, Kids: []api.Regex{empty}}, seq(none, set()), star(seq(set(0), alt(empty, set(64)))), alt(star(set(0, 1)), set(1, 1))}
	for _, r := range wrong {
		for _, size := range []int{1, 2, 64, 0, 65} {
			d, code := automaton.Of(r, size)
			fails(t, "P8.2: Of an expression that is not valid", d, code, api.ErrArg)
		}
	}
	for _, size := range append(extremes, 0, 65, 66, 128) {
		for _, r := range append(wrong, none, empty, set(0), seq(times(3000, set(0))...)) {
			d, code := automaton.Of(r, size)
			fails(t, "P8.2: Of with a wrong size", d, code, api.ErrArg)
		}
	}
	for _, size := range []int{1, 64} {
		if _, code := automaton.Of(set(0, 62, 63), size); code != api.OK {
			t.Errorf("P8.2: Of with the size %d: error %d", size, code)
		}
	}
}

// TestOfLimit counts expressions: these are the derivatives, also if few states are left of them.
func TestOfLimit(t *testing.T) {
	a, b, both := set(0), set(1), set(0, 1)
	for name, x := range map[string]struct {
		r      api.Regex
		size   int
		states int // 0: too many expressions
	}{
		// The beginnings of one word, and RxNone.
		"2046 symbols": {seq(times(2046, a)...), 1, 2048}, "2047 symbols": {seq(times(2047, a)...), 1, 0}, "2047 symbols, size 64": {seq(times(2047, a)...), 64, 0},
		"2047 symbols and all words": {seq(append(times(2047, both), star(both))...), 2, 2048}, "2048 symbols and all words": {seq(append(times(2048, both), star(both))...), 2, 0},
		// The sets of ends of the last 11 symbols; those of 12 are too many.
		"10 symbols behind one": {after(10, both, a), 2, 2048}, "10 symbols behind one, size 3": {after(10, both, a), 3, 0}, "11 symbols behind one": {after(11, both, a), 2, 0}, "11 symbols behind one, size 1": {after(11, both, a), 1, 13},
		// All words, but many expressions.
		"all words": {alt(star(both), after(11, both, a)), 2, 1}, "all words, too many expressions": {alt(star(both), after(12, both, a)), 2, 0},
		// Not followed: symbols from size on.
		"behind a symbol from size on": {seq(b, after(11, both, a)), 1, 1}, "alternatives with a symbol from size on": {alt(seq(a, a), seq(b, seq(times(3000, a)...))), 1, 4},
		"deep repetitions": {nest(1<<16-1, alt(a, b), star), 2, 1}, "deep alternatives": {nest(1<<16-1, a, func(r api.Regex) api.Regex { return alt(r, b) }), 2, 3}, "deep maybes": {nest(1<<16-1, seq(a, b), func(r api.Regex) api.Regex { return seq(alt(empty, r)) }), 2, 4},
	} {
		d, code := automaton.Of(x.r, x.size)
		if x.states == 0 {
			fails(t, "P8.2: Of: "+name, d, code, api.ErrLimit)
		} else if code != api.OK || len(d.Next) != x.states || !automaton.Valid(d) || d.Size != x.size {
			t.Errorf("P8.2: Of: %s: error %d and %d states", name, code, len(d.Next))
		}
	}
}

// nest applies a function some times.
func nest(times int, r api.Regex, f func(api.Regex) api.Regex) api.Regex {
	for range times {
		r = f(r)
	}
	return r
}

func TestRandomOf(t *testing.T) {
	r := rand.New(rand.NewSource(11))
	states := map[int]int{}
	tries := wordsUpTo(5, 3)
	for range 3000 {
		x := random(r, 2+r.Intn(4), 0, 1, 2, 63)
		size := []int{1, 2, 3, 3, 3, 64}[r.Intn(6)]
		d, code := automaton.Of(x, size)
		if want := minBy(ofBy(x, size)); code != api.OK || !equal(d, want) {
			t.Fatalf("P8.2: Of(%v, %d): error %d and %v, want %v", x, size, code, short(d), short(want))
		}
		states[len(d.Next)]++
		for _, w := range tries {
			inside := len(w) == 0 || slices.Max(w) < size
			if got := automaton.Accepts(d, w); got != (inside && regex.Match(x, w)) {
				t.Fatalf("P8.10: the automaton of %v and %d accepts %v: %v", x, size, w, got)
			}
		}
		if again := automaton.Min(d); !equal(again, d) {
			t.Fatalf("P8.2: Of(%v, %d) is not canonical", x, size)
		}
		back, code := automaton.Reverse(d)
		if want, _ := automaton.Of(regex.Reverse(x), size); code != api.OK || !equal(back, want) {
			t.Fatalf("P8.10: reversed, that of %v and %d is %v, want %v", x, size, short(back), short(want))
		}
	}
	for n := range 6 {
		if states[n+1] < 20 {
			t.Error("they have these numbers of states:", states)
		}
	}
}

// TestOfSymbols checks that each symbol is followed, also if another one is alike elsewhere.
func TestOfSymbols(t *testing.T) {
	every := make([]int, api.Symbols)
	for n := range every {
		every[n] = n
	}
	var kids []api.Regex
	for n := range api.Symbols {
		kids = append(kids, seq(set(n), set(every[:n+1]...), star(set(63-n))))
	}
	x := alt(kids...)
	d, code := automaton.Of(x, api.Symbols)
	if want := minBy(ofBy(x, api.Symbols)); code != api.OK || !equal(d, want) {
		t.Errorf("P8.2: Of: error %d, %v", code, short(d))
	}
	for m := range api.Symbols {
		for n := range api.Symbols {
			if automaton.Accepts(d, []int{m, n}) != (n <= m) || automaton.Accepts(d, []int{m, 0, n}) != (n == 63-m) {
				t.Fatalf("P8.10: the words with %d and %d are wrong", m, n)
			}
		}
	}
}
