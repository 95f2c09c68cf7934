package collate_test

import (
	"bytes"
	"math"
	"math/rand"
	"slices"
	"testing"

	"wordbook/alphabet"
	"wordbook/api"
	"wordbook/collate"
	"wordbook/wire"
)

// extremes are integers that are neither the index of a letter nor a level.
var extremes = []int{math.MinInt, math.MinInt + 1, math.MinInt32, -1 << 32, -64, -1, 60, api.WordEdge, api.Plus, api.Symbols, 1 << 16, 1 << 32, 1<<32 + 1, math.MaxInt32, math.MaxInt - 1, math.MaxInt}

// example is the alphabet of the chapter's examples.
func example() []api.Letter {
	return []api.Letter{
		{Text: "a", Base: 0, Width: 5},
		{Text: "b", Base: 1, Width: 5},
		{Text: "á", Base: 0, Mark: 1, Width: 5},
		{Text: "A", Base: 0, Case: 1, Width: 6},
	}
}

// mixed is an alphabet whose letters stand in another order than their bases, marks and cases; two letters differ at level 4 alone.
func mixed() []api.Letter {
	return []api.Letter{
		{Text: "Ä", Base: 5, Mark: 1, Case: 1, Width: 6},
		{Text: "ß", Base: 3, Mark: 15, Width: 5},
		{Text: "sch", Base: 2, Width: 13},
		{Text: "s", Base: 3, Width: 4},
		{Text: "A", Base: 5, Case: 1, Width: 6},
		{Text: "a", Base: 5, Width: 5},
		{Text: "ä", Base: 5, Mark: 1, Width: 5},
		{Text: "ae", Base: 5, Mark: 1, Width: 10},
		{Text: "S", Base: 3, Case: 1, Width: 5},
	}
}

// many is an alphabet of n letters: bases, each of them with a letter that has its mark and its case.
func many(n int) []api.Letter {
	var a []api.Letter
	for i := range n {
		l := api.Letter{Text: string([]byte{byte('a' + i%26), byte('A' + i/26)}), Base: i, Width: 1 + i}
		if i%2 == 1 {
			l.Base, l.Mark, l.Case = i-1, i%16, i/2%2
		}
		a = append(a, l)
	}
	return a
}

// wrong are alphabets that are not valid, by what is wrong with them.
func wrong() map[string][]api.Letter {
	m := map[string][]api.Letter{"no letters": nil, "an empty list": {}, "61 letters": many(61)}
	change := func(name string, n int, f func(*api.Letter)) {
		a := example()
		f(&a[n])
		m[name] = a
	}
	change("the same text", 1, func(l *api.Letter) { l.Text = "a" })
	change("an empty text", 1, func(l *api.Letter) { l.Text = "" })
	change("a reserved byte", 1, func(l *api.Letter) { l.Text = "b-" })
	change("a base that is no letter", 3, func(l *api.Letter) { l.Base = 4 })
	change("a base of -1", 3, func(l *api.Letter) { l.Base = -1 })
	change("the greatest base", 3, func(l *api.Letter) { l.Base = math.MaxInt })
	change("a base with another base", 3, func(l *api.Letter) { l.Base = 2 })
	change("a mark of a base", 0, func(l *api.Letter) { l.Mark = 1 })
	change("a mark of 16", 2, func(l *api.Letter) { l.Mark = 16 })
	change("a case of 2", 3, func(l *api.Letter) { l.Case = 2 })
	change("a width of 0", 1, func(l *api.Letter) { l.Width = 0 })
	return m
}

// random is a valid alphabet with few bases, whose other letters often have the same mark and case.
func random(r *rand.Rand) []api.Letter {
	a := many(1 + r.Intn(8))
	own := r.Perm(len(a))[:1+r.Intn(len(a))]
	for i := range a {
		a[i].Base, a[i].Mark, a[i].Case = i, 0, 0
		if !slices.Contains(own, i) {
			a[i].Base, a[i].Mark, a[i].Case = own[r.Intn(len(own))], r.Intn(3), r.Intn(2)
		}
	}
	return a
}

// randomWord is a short word, in which not every element is a letter.
func randomWord(r *rand.Rand, a []api.Letter) []int {
	w := make([]int, r.Intn(5))
	for i := range w {
		w[i] = r.Intn(len(a))
		if r.Intn(8) == 0 {
			w[i] = append(extremes, len(a))[r.Intn(len(extremes)+1)]
		}
	}
	return w
}

// randomWords is a list of words, of which each has its like: without a letter, with another one at its end, or with other marks and cases.
func randomWords(r *rand.Rand, a []api.Letter, n int) [][]int {
	var l [][]int
	for range n {
		w := randomWord(r, a)
		if len(l) > 0 && r.Intn(2) == 0 {
			w = slices.Clone(l[r.Intn(len(l))])
			if len(w) > 0 {
				w[r.Intn(len(w))] = r.Intn(len(a))
			}
			if len(w) > 0 && r.Intn(3) == 0 {
				w = w[1:]
			}
			if r.Intn(3) == 0 {
				w = append(w, r.Intn(len(a)))
			}
		}
		l = append(l, w)
	}
	return l
}

// wordOf reads a word of an alphabet's texts.
func wordOf(t *testing.T, a []api.Letter, s string) []int {
	t.Helper()
	w, at := alphabet.Read(a, s)
	if at >= 0 {
		t.Fatalf("%q is no word", s)
	}
	return w
}

// wordsOf reads several words.
func wordsOf(t *testing.T, a []api.Letter, texts ...string) [][]int {
	t.Helper()
	var l [][]int
	for _, s := range texts {
		l = append(l, wordOf(t, a, s))
	}
	return l
}

// levelOf is a level of a word, as the chapter defines it.
func levelOf(a []api.Letter, w []int, level int) []int {
	var numbers []int
	for _, n := range w {
		if n < 0 || n >= len(a) {
			continue
		}
		l := a[n]
		numbers = append(numbers, [...]int{l.Base, l.Mark, l.Case, n}[level-1])
	}
	return numbers
}

// lettersOf are the letters of a word.
func lettersOf(a []api.Letter, w []int) []int {
	return levelOf(a, w, 4)
}

// orderOf compares two words up to a level, as the chapter defines it.
func orderOf(a []api.Letter, v, w []int, level int) int {
	for n := 1; n <= level; n++ {
		if c := slices.Compare(levelOf(a, v, n), levelOf(a, w, n)); c != 0 {
			return c
		}
	}
	return 0
}

func TestKey(t *testing.T) {
	for _, x := range []struct {
		a       []api.Letter
		w, want []int
	}{
		{example(), []int{3, 1}, []int{1, 2, 0, 1, 1, 0, 2, 1, 0, 4, 2}},
		{example(), nil, []int{0, 0, 0}},
		{example(), []int{}, []int{0, 0, 0}},
		{example(), []int{0}, []int{1, 0, 1, 0, 1, 0, 1}},
		{example(), []int{1}, []int{2, 0, 1, 0, 1, 0, 2}},
		{example(), []int{2}, []int{1, 0, 2, 0, 1, 0, 3}},
		{example(), []int{3}, []int{1, 0, 1, 0, 2, 0, 4}},
		{example(), []int{3, 4, 1, -1}, []int{1, 2, 0, 1, 1, 0, 2, 1, 0, 4, 2}},
		{example(), []int{3, api.Plus, 1}, []int{1, 2, 0, 1, 1, 0, 2, 1, 0, 4, 2}},
		{example(), extremes, []int{0, 0, 0}},
		{mixed(), []int{0, 1, 2}, []int{6, 4, 3, 0, 2, 16, 1, 0, 2, 1, 1, 0, 1, 2, 3}},
		{mixed(), []int{6, 7, 8}, []int{6, 6, 4, 0, 2, 2, 1, 0, 1, 1, 2, 0, 7, 8, 9}},
		{many(60), []int{59, 0, 58}, []int{59, 1, 59, 0, 12, 1, 1, 0, 2, 1, 1, 0, 60, 1, 59}},
		{many(1), []int{0, 1, 0}, []int{1, 1, 0, 1, 1, 0, 1, 1, 0, 1, 1}},
	} {
		if k := collate.Key(x.a, x.w); !slices.Equal(k, x.want) {
			t.Errorf("P6.1: Key(%v, %v) = %v, want %v", x.a, x.w, k, x.want)
		}
	}
}

// orders are lists of words in increasing order, no two of which are equal.
func orders(t *testing.T) []struct {
	a []api.Letter
	l [][]int
} {
	return []struct {
		a []api.Letter
		l [][]int
	}{
		{example(), wordsOf(t, example(), "", "a", "ab", "Ab", "áb", "b")},
		{example(), wordsOf(t, example(), "a", "A", "á", "aa", "aA", "Aa", "AA", "aá", "Aá", "áa", "áA", "áá", "aaa", "aab", "b", "ba")},
		{mixed(), [][]int{
			nil, {2}, {2, 2}, {3}, {8}, {1}, {3, 3}, {3, 8}, {8, 3}, {3, 1}, {1, 3}, {1, 1}, {3, 5}, {3, 4}, {3, 6}, {3, 7}, {3, 0},
			{5}, {4}, {6}, {7}, {0}, {5, 2}, {0, 2}, {5, 5}, {5, 6}, {5, 7}, {6, 5}, {7, 5}, {6, 6}, {6, 7}, {7, 6}, {7, 7}, {6, 0},
		}},
	}
}

func TestCompare(t *testing.T) {
	for _, x := range orders(t) {
		for i, v := range x.l {
			for j, w := range x.l {
				want := 0
				if i < j {
					want = -1
				}
				if i > j {
					want = 1
				}
				if c := collate.Compare(x.a, v, w); c != want {
					t.Errorf("P6.2: Compare(%v, %v, %v) = %d", x.a, v, w, c)
				}
			}
		}
	}
	for _, x := range []struct {
		v, w []int
		want int
	}{
		{nil, []int{}, 0},
		{nil, extremes, 0},
		{extremes, []int{0}, -1},
		{[]int{1}, append([]int{0}, extremes...), 1},
		{[]int{0, 4, 1}, []int{-1, 0, 1, api.Plus}, 0},
		{[]int{0, 4, 1}, []int{0, 0}, 1},
		{[]int{0, -1, 1}, []int{0, 3}, 1},
	} {
		if c := collate.Compare(example(), x.v, x.w); c != x.want {
			t.Errorf("P6.2: Compare(%v, %v) = %d", x.v, x.w, c)
		}
	}
}

func TestSame(t *testing.T) {
	for _, x := range []struct {
		a    []api.Letter
		v, w string
		upTo int
	}{
		{example(), "Ab", "áb", 1},
		{example(), "ab", "Ab", 2},
		{example(), "ab", "ab", 4},
		{example(), "", "", 4},
		{example(), "", "a", 0},
		{example(), "a", "b", 0},
		{example(), "a", "aa", 0},
		{example(), "ab", "ba", 0},
		{example(), "aá", "áa", 1},
		{example(), "aA", "Aa", 2},
		{mixed(), "ä", "ae", 3},
		{mixed(), "äs", "sä", 0},
		{mixed(), "Äß", "äs", 1},
		{mixed(), "aäaes", "aaeäs", 3},
		{mixed(), "aes", "Äs", 2},
	} {
		for _, level := range append([]int{0, 1, 2, 3, 4, 5, 6}, extremes...) {
			want := 1 <= level && level <= x.upTo
			v, w := wordOf(t, x.a, x.v), wordOf(t, x.a, x.w)
			if collate.Same(x.a, v, w, level) != want || collate.Same(x.a, w, v, level) != want {
				t.Errorf("P6.3: Same of %s and %s at level %d is not %v", x.v, x.w, level, want)
			}
		}
	}
	for level := range 6 {
		want := 1 <= level && level <= 4
		if collate.Same(example(), []int{0, 4, 1}, append([]int{0, 1}, extremes...), level) != want {
			t.Errorf("P6.3: elements that are no letters count at level %d", level)
		}
	}
}

func TestSort(t *testing.T) {
	for _, x := range []struct {
		a    []api.Letter
		l    [][]int
		want []int
	}{
		{example(), nil, nil},
		{example(), [][]int{}, nil},
		{example(), [][]int{nil}, []int{0}},
		{example(), wordsOf(t, example(), "b", "áb", "Ab", "ab", "a"), []int{4, 3, 2, 1, 0}},
		{example(), wordsOf(t, example(), "ab", "a", "ab", "", "a", ""), []int{3, 5, 1, 4, 0, 2}},
		{example(), [][]int{{0, 1}, {1, -1}, {0, 60, 1}, {-1}, {1}, nil, {4, 0, 1}}, []int{3, 5, 0, 2, 6, 1, 4}},
		{mixed(), [][]int{{7}, {6}, {0}, {7}, {6}}, []int{1, 4, 0, 3, 2}},
	} {
		if o := collate.Sort(x.a, x.l); !slices.Equal(o, x.want) {
			t.Errorf("P6.4: Sort(%v, %v) = %v, want %v", x.a, x.l, o, x.want)
		}
	}
	r := rand.New(rand.NewSource(1))
	for _, x := range orders(t) {
		for range 20 {
			places := r.Perm(len(x.l))
			l := make([][]int, len(x.l))
			for i, at := range places {
				l[at] = x.l[i]
			}
			if o := collate.Sort(x.a, l); !slices.Equal(o, places) {
				t.Errorf("P6.4: Sort(%v, %v) = %v, want %v", x.a, l, o, places)
			}
		}
	}
}

func TestFind(t *testing.T) {
	sorted := []string{"a", "ab", "Ab", "áb", "b"}
	for _, x := range []struct {
		l        []string
		w        string
		level    int
		from, to int
	}{
		{sorted, "ab", 1, 1, 4},
		{sorted, "ab", 2, 1, 3},
		{sorted, "ab", 3, 1, 2},
		{sorted, "ab", 4, 1, 2},
		{sorted, "áb", 1, 1, 4},
		{sorted, "áb", 2, 3, 4},
		{sorted, "Ab", 3, 2, 3},
		{sorted, "", 1, 0, 0},
		{sorted, "a", 1, 0, 1},
		{sorted, "A", 2, 0, 1},
		{sorted, "A", 3, 1, 1},
		{sorted, "bb", 4, 5, 5},
		{sorted, "aba", 1, 4, 4},
		{sorted, "ab", 0, 0, 0},
		{sorted, "ab", 5, 0, 0},
		{sorted, "ab", -1, 0, 0},
		{sorted, "bb", 0, 0, 0},
		{sorted, "bb", 5, 0, 0},
		{nil, "ab", 1, 0, 0},
		{[]string{"b", "áb", "Ab", "ab", "a"}, "ab", 1, 1, 4},
		{[]string{"b", "áb", "Ab", "ab", "a"}, "Ab", 3, 2, 3},
		{[]string{"b", "", "b", "", "ab", "Ab", "ab"}, "ab", 4, 2, 4},
		{[]string{"b", "b", "b"}, "a", 1, 0, 0},
		{[]string{"b", "b", "b"}, "b", 1, 0, 3},
		{[]string{"", "", ""}, "", 1, 0, 3},
		{[]string{"", "", ""}, "b", 4, 3, 3},
	} {
		l, w := wordsOf(t, example(), x.l...), wordOf(t, example(), x.w)
		if from, to := collate.Find(example(), l, w, x.level); from != x.from || to != x.to {
			t.Errorf("P6.5: Find of %q in %q at level %d returns %d and %d, want %d and %d", x.w, x.l, x.level, from, to, x.from, x.to)
		}
	}
	l := [][]int{extremes, {0, -1, 1}, append([]int{0, 1}, extremes...), {1, 4}}
	for level := 1; level <= 4; level++ {
		if from, to := collate.Find(example(), l, []int{60, 0, 1}, level); from != 1 || to != 3 {
			t.Errorf("P6.5: with elements that are no letters, Find at level %d returns %d and %d", level, from, to)
		}
	}
	for _, level := range extremes {
		if from, to := collate.Find(example(), l, []int{1, 1}, level); from != 0 || to != 0 {
			t.Errorf("P6.5: Find at level %d returns %d and %d", level, from, to)
		}
	}
}

func TestSection(t *testing.T) {
	for _, x := range []struct {
		a    []api.Letter
		w    []int
		want int
	}{
		{example(), []int{2, 1}, 0},
		{example(), nil, -1},
		{example(), []int{}, -1},
		{example(), []int{1}, 1},
		{example(), []int{1, 0}, 1},
		{example(), []int{3}, 0},
		{example(), extremes, -1},
		{example(), append(slices.Clone(extremes), 1, 0), 1},
		{example(), []int{4, 2, 1}, 0},
		{mixed(), []int{0}, 5},
		{mixed(), []int{1, 0}, 3},
		{mixed(), []int{2, 5}, 2},
		{many(60), []int{59}, 58},
		{many(59), []int{59}, -1},
	} {
		if s := collate.Section(x.a, x.w); s != x.want {
			t.Errorf("P6.6: Section(%v, %v) = %d, want %d", x.a, x.w, s, x.want)
		}
	}
}

func TestWrongAlphabets(t *testing.T) {
	l := [][]int{{0}, {1}, {0, 1}, nil, extremes, {2, 3, 0, 1}}
	for name, a := range wrong() {
		if alphabet.Valid(a) {
			t.Fatalf("%s: the alphabet is valid", name)
		}
		if o := collate.Sort(a, l); len(o) != 0 {
			t.Errorf("P6.4: %s: Sort returns %v", name, o)
		}
		for _, v := range l {
			if k := collate.Key(a, v); len(k) != 0 {
				t.Errorf("P6.1: %s: Key(%v) = %v", name, v, k)
			}
			if s := collate.Section(a, v); s != -1 {
				t.Errorf("P6.6: %s: Section(%v) = %d", name, v, s)
			}
			for _, w := range l {
				if c := collate.Compare(a, v, w); c != 0 {
					t.Errorf("P6.2: %s: Compare(%v, %v) = %d", name, v, w, c)
				}
			}
			for level := range 6 {
				if collate.Same(a, v, v, level) {
					t.Errorf("P6.3: %s: Same(%v, %v) at level %d", name, v, v, level)
				}
				if from, to := collate.Find(a, l, v, level); from != 0 || to != 0 {
					t.Errorf("P6.5: %s: Find of %v at level %d returns %d and %d", name, v, level, from, to)
				}
			}
		}
	}
}

// TestAllWords compares all words of up to 3 letters, and of three of them the first one and the last one.
func TestAllWords(t *testing.T) {
	a := []api.Letter{{Text: "A", Base: 1, Case: 1, Width: 6}, {Text: "a", Base: 1, Width: 5}, {Text: "á", Base: 1, Mark: 2, Width: 5}, {Text: "b", Base: 3, Width: 5}}
	l := [][]int{nil}
	for i := 0; len(l[i]) < 3; i++ {
		for n := range a {
			l = append(l, append(slices.Clone(l[i]), n))
		}
	}
	results := make([][]int, len(l))
	for i, v := range l {
		for _, w := range l {
			c := collate.Compare(a, v, w)
			if want := orderOf(a, v, w, 4); c != want {
				t.Fatalf("P6.2: Compare(%v, %v) = %d", v, w, c)
			}
			if byKey := slices.Compare(collate.Key(a, v), collate.Key(a, w)); byKey != c {
				t.Fatalf("P6.7: Compare(%v, %v) = %d, and %d by the keys", v, w, c, byKey)
			}
			results[i] = append(results[i], c)
		}
	}
	for i := range l {
		for j := range l {
			if results[i][j] != -results[j][i] || (results[i][j] == 0) != (i == j) {
				t.Fatalf("P6.7: Compare(%v, %v) = %d, and %d the other way", l[i], l[j], results[i][j], results[j][i])
			}
			for k := range l {
				if results[i][j] <= 0 && results[j][k] <= 0 && results[i][k] > 0 {
					t.Fatalf("P6.7: not transitive: %v, %v, %v", l[i], l[j], l[k])
				}
			}
		}
	}
}

// bytesOf are the encodings of the numbers of a key.
func bytesOf(key []int) []byte {
	var b []byte
	for _, n := range key {
		b = append(b, wire.Int(n)...)
	}
	return b
}

func TestRandomOrder(t *testing.T) {
	r := rand.New(rand.NewSource(2))
	results := map[int]int{}
	for range 20000 {
		a := random(r)
		l := randomWords(r, a, 3)
		u, v, w := l[0], l[1], l[2]
		c := collate.Compare(a, v, w)
		if want := orderOf(a, v, w, 4); c != want {
			t.Fatalf("P6.2: Compare(%v, %v, %v) = %d, want %d", a, v, w, c, want)
		}
		if collate.Compare(a, w, v) != -c {
			t.Fatalf("P6.7: Compare of %v and %v in %v is not antisymmetric", v, w, a)
		}
		if c <= 0 && collate.Compare(a, u, v) <= 0 && collate.Compare(a, u, w) > 0 {
			t.Fatalf("P6.7: Compare of %v, %v and %v in %v is not transitive", u, v, w, a)
		}
		if (c == 0) != slices.Equal(lettersOf(a, v), lettersOf(a, w)) {
			t.Fatalf("P6.7: Compare(%v, %v, %v) = %d", a, v, w, c)
		}
		first, second := collate.Key(a, v), collate.Key(a, w)
		if k := slices.Compare(first, second); k != c {
			t.Fatalf("P6.7: Compare(%v, %v, %v) = %d, and %d by the keys", a, v, w, c, k)
		}
		if k := bytes.Compare(bytesOf(first), bytesOf(second)); k != c {
			t.Fatalf("P6.10: Compare(%v, %v, %v) = %d, and %d by the bytes of the keys", a, v, w, c, k)
		}
		results[c]++
	}
	if results[-1] < 5000 || results[0] < 1000 || results[1] < 5000 {
		t.Errorf("of all pairs, these are less, equal and greater: %v", results)
	}
}

// TestRandomKeys puts keys together level by level.
func TestRandomKeys(t *testing.T) {
	r := rand.New(rand.NewSource(3))
	for range 20000 {
		a := random(r)
		w := randomWord(r, a)
		var want []int
		for level := 1; level <= 4; level++ {
			for _, n := range levelOf(a, w, level) {
				want = append(want, n+1)
			}
			if level < 4 {
				want = append(want, 0)
			}
		}
		if k := collate.Key(a, w); !slices.Equal(k, want) {
			t.Fatalf("P6.1: Key(%v, %v) = %v, want %v", a, w, k, want)
		}
	}
}

func TestRandomLevels(t *testing.T) {
	r := rand.New(rand.NewSource(4))
	var results [6]int
	for range 20000 {
		a := random(r)
		l := randomWords(r, a, 2)
		v, w := l[0], l[1]
		if r.Intn(3) == 0 { // other marks and cases of the same base letters
			w = alphabet.Fold(a, v)
		}
		for level := 0; level <= 5; level++ {
			same := collate.Same(a, v, w, level)
			if want := 1 <= level && level <= 4 && orderOf(a, v, w, level) == 0; same != want {
				t.Fatalf("P6.3: Same(%v, %v, %v, %d) = %v", a, v, w, level, same)
			}
			if same && level > 1 && !collate.Same(a, v, w, level-1) {
				t.Fatalf("P6.8: %v and %v are equal up to level %d, but not up to the one before it, in %v", v, w, level, a)
			}
			if same {
				results[level]++
			}
		}
		folds := slices.Equal(alphabet.Fold(a, lettersOf(a, v)), alphabet.Fold(a, lettersOf(a, w)))
		if collate.Same(a, v, w, 1) != folds {
			t.Fatalf("P6.8: Same(%v, %v, %v, 1) = %v", a, v, w, !folds)
		}
		fold := alphabet.Fold(a, v)
		if !collate.Same(a, v, fold, 1) {
			t.Fatalf("P6.8: %v is not equal to %v in %v", v, fold, a)
		}
		if collate.Compare(a, v, fold) < 0 && !collate.Same(a, v, fold, 3) {
			t.Fatalf("P6.8: %v is less than %v in %v", v, fold, a)
		}
	}
	for level := 2; level <= 4; level++ {
		if results[level] < 1000 || results[level-1]-results[level] < 100 {
			t.Errorf("of all pairs, these are equal up to the levels: %v", results)
		}
	}
}

func TestRandomSort(t *testing.T) {
	r := rand.New(rand.NewSource(5))
	for range 3000 {
		a := random(r)
		l := randomWords(r, a, r.Intn(30))
		o := collate.Sort(a, l)
		if len(o) != len(l) {
			t.Fatalf("P6.4: Sort(%v, %v) = %v", a, l, o)
		}
		seen := make([]bool, len(l))
		for i, n := range o {
			if n < 0 || n >= len(l) || seen[n] {
				t.Fatalf("P6.4: Sort(%v, %v) = %v", a, l, o)
			}
			seen[n] = true
			if i == 0 {
				continue
			}
			before := o[i-1]
			if c := orderOf(a, l[before], l[n], 4); c > 0 || c == 0 && before > n {
				t.Fatalf("P6.4: Sort(%v, %v) = %v", a, l, o)
			}
			// Words without letters have the section -1, which is less than all others.
			if s := collate.Section(a, l[n]); s < collate.Section(a, l[before]) || (s < 0) != (len(lettersOf(a, l[n])) == 0) {
				t.Fatalf("P6.11: Section of %v is %d, in %v of %v", l[n], s, o, a)
			}
		}
	}
}

func TestRandomFind(t *testing.T) {
	r := rand.New(rand.NewSource(6))
	ranges := 0
	for range 5000 {
		a := random(r)
		l := randomWords(r, a, r.Intn(20))
		w := randomWord(r, a)
		if len(l) > 0 && r.Intn(2) == 0 {
			w = l[r.Intn(len(l))]
		}
		level := 1 + r.Intn(4)
		less, same := 0, 0
		for _, v := range l {
			switch orderOf(a, v, w, level) {
			case -1:
				less++
			case 0:
				same++
			}
		}
		from, to := collate.Find(a, l, w, level)
		if from != less || to != less+same {
			t.Fatalf("P6.5: Find(%v, %v, %v, %d) returns %d and %d, want %d and %d", a, l, w, level, from, to, less, less+same)
		}
		if to-from > 1 {
			ranges++
		}
		for i, n := range collate.Sort(a, l) {
			inside := from <= i && i < to
			if collate.Same(a, l[n], w, level) != inside {
				t.Fatalf("P6.9: word %d in order of %v in %v, and %v at level %d", i, l, a, w, level)
			}
			if c := collate.Compare(a, l[n], w); i < from && c >= 0 || i >= to && c <= 0 {
				t.Fatalf("P6.9: word %d in order of %v in %v, and %v at level %d", i, l, a, w, level)
			}
		}
	}
	if ranges < 1000 {
		t.Errorf("%d ranges have several words", ranges)
	}
}

// TestAnything calls everything with letters, words and levels of any kind.
func TestAnything(t *testing.T) {
	r := rand.New(rand.NewSource(7))
	number := func() int {
		if r.Intn(8) == 0 {
			return extremes[r.Intn(len(extremes))]
		}
		return r.Intn(5) - 1
	}
	word := func() []int {
		w := make([]int, r.Intn(5))
		for i := range w {
			w[i] = number()
		}
		return w
	}
	valid := 0
	for range 30000 {
		a := make([]api.Letter, r.Intn(4))
		for i := range a {
			a[i] = api.Letter{Text: "abcd1"[r.Intn(5):][:1], Base: r.Intn(len(a)), Width: 5}
			if r.Intn(3) == 0 {
				a[i] = api.Letter{Text: a[i].Text, Base: number(), Mark: number(), Case: number(), Width: number()}
			}
		}
		l := [][]int{word(), word(), nil, word()}
		v, w, level := word(), word(), number()
		if alphabet.Valid(a) {
			valid++
			if c := collate.Compare(a, v, w); c != orderOf(a, v, w, 4) {
				t.Fatalf("P6.2: Compare(%v, %v, %v) = %d", a, v, w, c)
			}
			if o := collate.Sort(a, l); len(o) != len(l) {
				t.Fatalf("P6.4: Sort(%v, %v) = %v", a, l, o)
			}
			if same := collate.Same(a, v, w, level); same != (1 <= level && level <= 4 && orderOf(a, v, w, level) == 0) {
				t.Fatalf("P6.3: Same(%v, %v, %v, %d) = %v", a, v, w, level, same)
			}
			continue
		}
		from, to := collate.Find(a, l, w, level)
		if len(collate.Key(a, v)) != 0 || collate.Compare(a, v, w) != 0 || collate.Same(a, v, v, level) || len(collate.Sort(a, l)) != 0 || from != 0 || to != 0 || collate.Section(a, v) != -1 {
			t.Fatalf("P6.1 to P6.6: %v is no alphabet, but %v, %v and %v at level %d have results", a, l, v, w, level)
		}
	}
	if valid < 5000 || valid > 25000 {
		t.Errorf("%d alphabets are valid", valid)
	}
}

// TestLong sorts many words, and compares long ones.
func TestLong(t *testing.T) {
	r := rand.New(rand.NewSource(8))
	a := many(60)
	l := make([][]int, 100000)
	for i := range l {
		l[i] = []int{r.Intn(60), r.Intn(60), r.Intn(4), r.Intn(60)}[:r.Intn(5)]
	}
	o := collate.Sort(a, l)
	for i := 1; i < len(o); i++ {
		if c := collate.Compare(a, l[o[i-1]], l[o[i]]); c > 0 || c == 0 && o[i-1] > o[i] {
			t.Fatalf("P6.4: %v before %v", l[o[i-1]], l[o[i]])
		}
	}
	long := make([]int, 1000000)
	for i := range long {
		long[i] = i % 64
	}
	longer := append(slices.Clone(long), 0)
	if collate.Compare(a, long, longer) != -1 || collate.Compare(a, longer, long) != 1 || collate.Compare(a, long, slices.Clone(long)) != 0 {
		t.Error("P6.2: long words are not compared")
	}
	if k := collate.Key(a, longer); len(k) != 4*len(lettersOf(a, longer))+3 || k[len(k)-1] != 1 || k[len(k)-2] != 60 {
		t.Error("P6.1: a key with", len(k), "numbers")
	}
}

// TestMemory checks that no call changes an argument or its spare capacity, and that results are new memory.
func TestMemory(t *testing.T) {
	a := append(make([]api.Letter, 0, 8), example()...)
	v := append(make([]int, 0, 4), 3, -1, 1)
	w := append(make([]int, 0, 4), 2, 1)
	l := append(make([][]int, 0, 5), v, w, nil, w)
	for range 2 {
		for _, x := range []struct{ result, want []int }{
			{collate.Key(a, v), []int{1, 2, 0, 1, 1, 0, 2, 1, 0, 4, 2}},
			{collate.Key(a, nil), []int{0, 0, 0}},
			{collate.Sort(a, l), []int{2, 0, 1, 3}},
		} {
			if !slices.Equal(x.result, x.want) {
				t.Error("R4: a result is", x.result, "and not", x.want)
			}
			for i := range x.result {
				x.result[i] = 77
			}
			_ = append(x.result, 88)
		}
		collate.Compare(a, v, w)
		collate.Same(a, v, w, 4)
		collate.Find(a, l, v, 3)
		collate.Section(a, v)
	}
	if !slices.Equal(v[:4], []int{3, -1, 1, 0}) || !slices.Equal(w[:4], []int{2, 1, 0, 0}) {
		t.Error("R4: a word was changed:", v[:4], w[:4])
	}
	if !slices.Equal(a[:8], append(example(), make([]api.Letter, 4)...)) {
		t.Error("R4: the alphabet was changed:", a[:8])
	}
	if whole := l[:5]; &whole[0][0] != &v[0] || &whole[1][0] != &w[0] || whole[2] != nil || &whole[3][0] != &w[0] || whole[4] != nil {
		t.Error("R4: the list was changed:", whole)
	}
}
