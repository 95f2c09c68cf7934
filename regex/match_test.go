package regex_test

import (
	"math/rand"
	"slices"
	"testing"

	"wordbook/api"
	"wordbook/regex"
)

// wordsUpTo are all words of some symbols up to a length.
func wordsUpTo(length int, symbols ...int) [][]int {
	l := [][]int{nil}
	for i := 0; i < len(l) && len(l[i]) < length; i++ {
		for _, n := range symbols {
			l = append(l, append(slices.Clone(l[i]), n))
		}
	}
	return l
}

// textOf is a word as wordsBy returns it.
func textOf(w []int) string {
	var b []byte
	for _, n := range w {
		b = append(b, byte(n))
	}
	return string(b)
}

// matchBy follows a word by derivatives.
func matchBy(r api.Regex, w []int) bool {
	for _, n := range w {
		r = regex.Derive(r, n)
	}
	return regex.Empty(r)
}

func TestMatch(t *testing.T) {
	a, b, c := set(0), set(1), set(2)
	example := seq(a, star(set(1, 2)))
	for _, x := range []struct {
		r    api.Regex
		w    []int
		want bool
	}{
		{example, []int{0, 1, 2, 1}, true}, {example, []int{1}, false}, {example, []int{0}, true}, {example, nil, false}, {example, []int{0, 1, 0}, false}, {example, []int{0, 0}, false},
		{none, nil, false}, {none, []int{0}, false}, {empty, nil, true}, {empty, []int{0}, false}, {seq(), nil, true}, {seq(), []int{0}, false}, {alt(), nil, false}, {alt(), []int{0}, false},
		{set(0, 62, 63), []int{62}, true}, {set(0, 62, 63), []int{63}, true}, {set(0, 62, 63), []int{61}, false}, {set(0, 62, 63), nil, false}, {set(0, 62, 63), []int{0, 63}, false},
		{seq(a, b, c), []int{0, 1, 2}, true}, {seq(a, b, c), []int{2, 1, 0}, false}, {seq(a, b, c), []int{0, 1}, false}, {seq(a, b, c), []int{0, 1, 2, 2}, false}, {seq(a, none), []int{0}, false},
		{alt(a, seq(a, b)), []int{0, 1}, true}, {alt(a, seq(a, b)), []int{0}, true}, {alt(a, seq(a, b)), []int{1}, false}, {alt(none, empty), nil, true},
		{star(none), nil, true}, {star(none), []int{0}, false}, {star(empty), nil, true}, {star(empty), []int{0}, false}, {star(seq(a, b)), []int{0, 1, 0, 1}, true}, {star(seq(a, b)), []int{0, 1, 0}, false},
		{star(star(a)), []int{0, 0, 0}, true}, {star(star(maybe(a))), []int{0, 0, 0, 1}, false}, {seq(star(a), a, a), []int{0, 0}, true}, {seq(star(a), a, a), []int{0}, false},
		{star(alt(seq(a, b), seq(b, a), empty)), []int{0, 1, 1, 0, 0, 1}, true}, {star(alt(seq(a, b), seq(b, a), empty)), []int{0, 1, 1, 1}, false},
	} {
		if got := regex.Match(x.r, x.w); got != x.want {
			t.Errorf("P7.4: Match(%v, %v) = %v", x.r, x.w, got)
		}
	}
	all := make([]int, api.Symbols)
	for n := range all {
		all[n] = n
	}
	for _, n := range extremes {
		if r := star(set(all...)); regex.Match(r, []int{n}) || regex.Match(r, []int{0, n}) || regex.Match(r, []int{n, 63}) {
			t.Errorf("P7.4: words with %d are matched", n)
		}
	}
}

func TestRandomMatch(t *testing.T) {
	r := rand.New(rand.NewSource(6))
	tries := wordsUpTo(3, 0, 2, api.Plus)
	results := map[bool]int{}
	for range 10000 {
		x := random(r, 2+r.Intn(4))
		words := wordsBy(x, 3)
		for _, w := range tries {
			m := regex.Match(x, w)
			if m != words[textOf(w)] {
				t.Fatalf("P7.4: Match(%v, %v) = %v", x, w, m)
			}
			results[m]++
		}
		var long []int
		for range r.Intn(30) {
			long = append(long, symbols[r.Intn(len(symbols))])
			if len(words) > 1 && r.Intn(2) == 0 { // many are words of the RxStar
				for w := range words {
					long = append(long, symbolsBy(w)...)
					break
				}
			}
		}
		for _, y := range []api.Regex{x, star(x), seq(star(x), x)} {
			if m := regex.Match(y, long); m != matchBy(y, long) {
				t.Fatalf("P7.7: Match(%v, %v) = %v", y, long, m)
			}
		}
	}
	if results[true] < 5000 || results[false] < 5000 {
		t.Error("these are matched and not:", results)
	}
}

// TestOperations divides words.
func TestOperations(t *testing.T) {
	r := rand.New(rand.NewSource(7))
	tries := wordsUpTo(3, 1, 2, api.WordEdge)
	for range 5000 {
		x, y := random(r, 3), random(r, 3)
		for _, w := range tries {
			if got := regex.Match(alt(x, y), w); got != (regex.Match(x, w) || regex.Match(y, w)) {
				t.Fatalf("P7.8: RxAlt of %v and %v, and %v: %v", x, y, w, got)
			}
			divided, again := false, false
			for i := range len(w) + 1 {
				divided = divided || regex.Match(x, w[:i]) && regex.Match(y, w[i:])
				again = again || i > 0 && regex.Match(x, w[:i]) && regex.Match(star(x), w[i:])
			}
			if got := regex.Match(seq(x, y), w); got != divided {
				t.Fatalf("P7.8: RxSeq of %v and %v, and %v: %v", x, y, w, got)
			}
			if got := regex.Match(star(x), w); len(w) > 0 && got != again || len(w) == 0 && !got {
				t.Fatalf("P7.8: RxStar of %v, and %v: %v", x, w, got)
			}
		}
	}
}

// TestLongMatch matches long words, and expressions whose derivatives, or ways through them, are very many.
func TestLongMatch(t *testing.T) {
	a, both := set(0), set(0, 1)
	word := make([]int, 2000)
	for i := range word {
		word[i] = i % 3 / 2
	}
	behind := []api.Regex{star(both), a}
	for range 300 {
		behind = append(behind, both)
	}
	if got := regex.Match(seq(behind...), word); got != (word[len(word)-301] == 0) {
		t.Error("P7.4: a letter before the last 300 ones:", got)
	}
	var maybes, letters []api.Regex
	for range 300 {
		maybes, letters = append(maybes, maybe(a)), append(letters, a)
	}
	r := seq(append(maybes, letters...)...)
	for n, want := range map[int]bool{299: false, 300: true, 600: true, 601: false} {
		if got := regex.Match(r, make([]int, n)); got != want {
			t.Errorf("P7.4: of 300 to 600 letters, %d are: %v", n, got)
		}
	}
	nested := a
	for range 10 { // it doubles each time
		nested = star(alt(seq(nested, both), seq(both, both), seq(a, nested)))
	}
	if !regex.Match(nested, word) {
		t.Error("P7.4: repetitions inside repetitions do not match")
	}
	long := make([]int, 1000000)
	if !regex.Match(star(seq(a, a)), long) || regex.Match(star(seq(a, a)), long[1:]) {
		t.Error("P7.4: a long word is matched wrongly")
	}
}
