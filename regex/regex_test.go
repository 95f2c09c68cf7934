package regex_test

import (
	"math"
	"math/rand"
	"reflect"
	"slices"
	"testing"

	"wordbook/api"
	"wordbook/regex"
)

// extremes are integers that are no symbols.
var extremes = []int{math.MinInt, math.MinInt + 1, math.MinInt32, -1 << 32, -64, -1, api.Symbols, api.Symbols + 1, 127, 128, 256, 1 << 16, 1 << 32, 1<<32 + 1, math.MaxInt32, math.MaxInt - 1, math.MaxInt}

// kinds are integers that are no kinds of expressions.
var kinds = []int{math.MinInt, -1, api.RxStar + 1, 1 << 8, 1 << 32, 1<<32 + api.RxSet, math.MaxInt}

var none, empty = api.Regex{Kind: api.RxNone}, api.Regex{Kind: api.RxEmpty}

func set(symbols ...int) api.Regex {
	return api.Regex{Kind: api.RxSet, Symbols: symbols}
}

func seq(kids ...api.Regex) api.Regex {
	return api.Regex{Kind: api.RxSeq, Kids: kids}
}

func alt(kids ...api.Regex) api.Regex {
	return api.Regex{Kind: api.RxAlt, Kids: kids}
}

func star(kid api.Regex) api.Regex {
	return api.Regex{Kind: api.RxStar, Kids: []api.Regex{kid}}
}

// maybe is the expression that x? stands for.
func maybe(kid api.Regex) api.Regex {
	return alt(empty, kid)
}

// encode returns numbers whose order is that of the expressions; they are equal only for equal expressions.
func encode(r api.Regex) []int {
	code := []int{r.Kind}
	for _, n := range r.Symbols {
		code = append(code, 1, n)
	}
	code = append(code, 0)
	for _, k := range r.Kids {
		code = append(append(code, 1), encode(k)...)
	}
	return append(code, 0)
}

func same(x, y api.Regex) bool {
	return slices.Equal(encode(x), encode(y))
}

// validBy says whether an expression is valid, as the chapter defines it.
func validBy(r api.Regex) bool {
	symbols := map[int]bool{}
	for _, n := range r.Symbols {
		if n < 0 || n > 63 {
			return false
		}
		symbols[n] = true
	}
	if len(symbols) != len(r.Symbols) || !slices.IsSorted(r.Symbols) {
		return false
	}
	for _, k := range r.Kids {
		if !validBy(k) {
			return false
		}
	}
	noSymbols, noKids := len(r.Symbols) == 0, len(r.Kids) == 0
	return (r.Kind == api.RxNone || r.Kind == api.RxEmpty) && noSymbols && noKids ||
		r.Kind == api.RxSet && !noSymbols && noKids ||
		(r.Kind == api.RxSeq || r.Kind == api.RxAlt) && noSymbols ||
		r.Kind == api.RxStar && noSymbols && len(r.Kids) == 1
}

// joins are the words of at most a length that consist of a word of the one set and a word of the other one.
func joins(v, w map[string]bool, length int) map[string]bool {
	joined := map[string]bool{}
	for x := range v {
		for y := range w {
			if len(x)+len(y) <= length {
				joined[x+y] = true
			}
		}
	}
	return joined
}

// wordsBy are the words of a valid expression that have at most a length, as the chapter defines them; each byte is a symbol.
func wordsBy(r api.Regex, length int) map[string]bool {
	words := map[string]bool{}
	switch r.Kind {
	case api.RxEmpty:
		words[""] = true
	case api.RxSet:
		for _, n := range r.Symbols {
			if length > 0 {
				words[string([]byte{byte(n)})] = true
			}
		}
	case api.RxSeq:
		words[""] = true
		for _, k := range r.Kids {
			words = joins(words, wordsBy(k, length), length)
		}
	case api.RxAlt:
		for _, k := range r.Kids {
			for w := range wordsBy(k, length) {
				words[w] = true
			}
		}
	case api.RxStar:
		kid := wordsBy(r.Kids[0], length)
		words[""] = true
		for before := 0; len(words) > before; {
			before = len(words)
			for w := range joins(words, kid, length) {
				words[w] = true
			}
		}
	}
	return words
}

// symbolsBy are the symbols of a word of wordsBy.
func symbolsBy(w string) []int {
	var symbols []int
	for i := range len(w) {
		symbols = append(symbols, int(w[i]))
	}
	return symbols
}

// oneOf is an expression of a kind, or what stands for it if it has one kid or none.
func oneOf(kind, without int, kids []api.Regex) api.Regex {
	if len(kids) == 0 {
		return api.Regex{Kind: without}
	}
	if len(kids) == 1 {
		return kids[0]
	}
	return api.Regex{Kind: kind, Kids: kids}
}

// simpleBy is the normal form of a valid expression, as the chapter defines it.
func simpleBy(r api.Regex) api.Regex {
	switch r.Kind {
	case api.RxSeq:
		return simpleSeqBy(r)
	case api.RxAlt:
		return simpleAltBy(r)
	case api.RxStar:
		x := simpleBy(r.Kids[0])
		if x.Kind == api.RxNone || x.Kind == api.RxEmpty {
			return empty
		}
		if x.Kind == api.RxStar {
			return x
		}
		if x.Kind == api.RxAlt {
			x = oneOf(api.RxAlt, api.RxNone, slices.DeleteFunc(slices.Clone(x.Kids), func(k api.Regex) bool { return k.Kind == api.RxEmpty }))
		}
		return star(x)
	}
	return r
}

func simpleSeqBy(r api.Regex) api.Regex {
	var kids []api.Regex
	for _, k := range r.Kids {
		x := simpleBy(k)
		if x.Kind == api.RxNone {
			return none
		}
		if x.Kind == api.RxSeq {
			kids = append(kids, x.Kids...)
		} else if x.Kind != api.RxEmpty {
			kids = append(kids, x)
		}
	}
	return oneOf(api.RxSeq, api.RxEmpty, kids)
}

func simpleAltBy(r api.Regex) api.Regex {
	var kids []api.Regex
	for _, k := range r.Kids {
		x := simpleBy(k)
		if x.Kind == api.RxAlt {
			kids = append(kids, x.Kids...)
		} else if x.Kind != api.RxNone {
			kids = append(kids, x)
		}
	}
	var symbols []int
	var rest []api.Regex
	withEmpty := false
	for _, x := range kids {
		if x.Kind == api.RxSet {
			symbols = append(symbols, x.Symbols...)
			continue
		}
		if !slices.ContainsFunc(rest, func(y api.Regex) bool { return same(x, y) }) {
			rest = append(rest, x)
			withEmpty = withEmpty || x.Kind != api.RxEmpty && wordsBy(x, 0)[""]
		}
	}
	if len(symbols) > 0 {
		slices.Sort(symbols)
		rest = append(rest, set(slices.Compact(symbols)...))
	}
	if withEmpty {
		rest = slices.DeleteFunc(rest, func(x api.Regex) bool { return x.Kind == api.RxEmpty })
	}
	slices.SortFunc(rest, func(x, y api.Regex) int { return slices.Compare(encode(x), encode(y)) })
	return oneOf(api.RxAlt, api.RxNone, rest)
}

// deriveBy is the derivative of a valid expression, as the chapter defines it.
func deriveBy(r api.Regex, symbol int) api.Regex {
	var l []api.Regex
	switch r.Kind {
	case api.RxSet:
		if slices.Contains(r.Symbols, symbol) {
			return empty
		}
	case api.RxAlt:
		for _, k := range r.Kids {
			l = append(l, deriveBy(k, symbol))
		}
		return alt(l...)
	case api.RxSeq:
		for i, k := range r.Kids {
			if wordsBy(seq(r.Kids[:i]...), 0)[""] {
				l = append(l, seq(append([]api.Regex{deriveBy(k, symbol)}, r.Kids[i+1:]...)...))
			}
		}
		return alt(l...)
	case api.RxStar:
		return seq(deriveBy(r.Kids[0], symbol), r)
	}
	return none
}

// reverseBy is an expression whose sequences have the opposite order.
func reverseBy(r api.Regex) api.Regex {
	back := api.Regex{Kind: r.Kind, Symbols: r.Symbols}
	for _, k := range r.Kids {
		back.Kids = append(back.Kids, reverseBy(k))
	}
	if r.Kind == api.RxSeq {
		slices.Reverse(back.Kids)
	}
	return back
}

// symbols are those of random expressions.
var symbols = []int{0, 1, 2, api.WordEdge, api.Plus}

// random is a valid expression of at most some levels.
func random(r *rand.Rand, levels int) api.Regex {
	n := r.Intn(10)
	if levels <= 1 && n > 3 {
		n = 3
	}
	var kids []api.Regex
	if n > 3 {
		for range r.Intn(4) {
			kids = append(kids, random(r, levels-1))
		}
	}
	switch {
	case n == 0 && r.Intn(2) == 0:
		return none
	case n <= 1:
		return empty
	case n <= 3:
		var l []int
		for _, s := range symbols {
			if r.Intn(3) == 0 {
				l = append(l, s)
			}
		}
		if len(l) == 0 {
			l = []int{symbols[r.Intn(len(symbols))]}
		}
		return set(l...)
	case n <= 6:
		return seq(kids...)
	case n <= 8:
		return alt(kids...)
	}
	return star(random(r, levels-1))
}

// wrong are expressions that are not valid, none of which has kids that are not valid.
func wrong() []api.Regex {
	a := set(0)
	l := []api.Regex{
		{Kind: api.RxNone, Symbols: []int{0}},
		{Kind: api.RxNone, Kids: []api.Regex{none}},
		{Kind: api.RxEmpty, Symbols: []int{0}},
		{Kind: api.RxEmpty, Kids: []api.Regex{empty}},
		{Kind: api.RxSet},
		{Kind: api.RxSet, Symbols: []int{}},
		{Kind: api.RxSet, Symbols: []int{0, 0}},
		{Kind: api.RxSet, Symbols: []int{1, 0}},
		{Kind: api.RxSet, Symbols: []int{0, 1, 2, 2}},
		{Kind: api.RxSet, Symbols: []int{0, 2, 1, 3}},
		{Kind: api.RxSet, Symbols: []int{0, 63, 64}},
		{Kind: api.RxSet, Symbols: []int{-1, 0}},
		{Kind: api.RxSet, Symbols: []int{0}, Kids: []api.Regex{a}},
		{Kind: api.RxSet, Kids: []api.Regex{a}},
		{Kind: api.RxSeq, Symbols: []int{0}},
		{Kind: api.RxSeq, Symbols: []int{0}, Kids: []api.Regex{a, a}},
		{Kind: api.RxAlt, Symbols: []int{0}},
		{Kind: api.RxAlt, Symbols: []int{0}, Kids: []api.Regex{a, a}},
		{Kind: api.RxStar},
		{Kind: api.RxStar, Kids: []api.Regex{}},
		{Kind: api.RxStar, Kids: []api.Regex{a, a}},
		{Kind: api.RxStar, Symbols: []int{0}},
		{Kind: api.RxStar, Symbols: []int{0}, Kids: []api.Regex{a}},
	}
	for _, n := range extremes {
		l = append(l, set(n), api.Regex{Kind: api.RxSeq, Symbols: []int{n}})
	}
	for _, kind := range kinds {
		l = append(l, api.Regex{Kind: kind}, api.Regex{Kind: kind, Symbols: []int{0}}, api.Regex{Kind: kind, Kids: []api.Regex{a}})
	}
	return l
}

// around are expressions that have r as a kid. Most of them would have other words if r had none.
func around(r api.Regex) []api.Regex {
	a, all := set(0), star(set(symbols...))
	return []api.Regex{star(r), seq(r), alt(r), seq(a, r), seq(r, a), seq(none, r), seq(all, r), alt(all, r), alt(r, all), alt(empty, r, a), star(seq(alt(a, star(seq(all, r))), a))}
}

// rejected checks that an expression is treated as one that is not valid.
func rejected(t *testing.T, r api.Regex) {
	t.Helper()
	if regex.Valid(r) {
		t.Errorf("P7.1: Valid(%v)", r)
	}
	if x := regex.Simple(r); !reflect.DeepEqual(x, none) {
		t.Errorf("P7.1: Simple(%v) = %v", r, x)
	}
	if regex.Empty(r) {
		t.Errorf("P7.2: Empty(%v)", r)
	}
	if x := regex.Reverse(r); !reflect.DeepEqual(x, none) {
		t.Errorf("P7.2: Reverse(%v) = %v", r, x)
	}
	for _, n := range append([]int{0, 1, api.Plus}, extremes...) {
		if x := regex.Derive(r, n); !reflect.DeepEqual(x, none) {
			t.Errorf("P7.3: Derive(%v, %d) = %v", r, n, x)
		}
		if regex.Match(r, nil) || regex.Match(r, []int{n}) || regex.Match(r, []int{0, n}) {
			t.Errorf("P7.4: Match(%v, ..)", r)
		}
	}
	if s := regex.Print(r, abc()); s != "" {
		t.Errorf("P7.6: Print(%v) = %q", r, s)
	}
}

func TestNotValid(t *testing.T) {
	for _, r := range wrong() {
		rejected(t, r)
		for _, x := range around(r) {
			rejected(t, x)
			for _, y := range around(x) {
				rejected(t, y)
			}
		}
	}
}

func TestValid(t *testing.T) {
	all := make([]int, api.Symbols)
	for n := range all {
		all[n] = n
	}
	for _, r := range []api.Regex{
		none, empty, {Kind: api.RxNone, Symbols: []int{}, Kids: []api.Regex{}}, {Kind: api.RxEmpty, Symbols: []int{}, Kids: []api.Regex{}},
		set(0), set(63), set(60), set(61), set(62), set(all...), {Kind: api.RxSet, Symbols: []int{3}, Kids: []api.Regex{}},
		seq(), alt(), {Kind: api.RxSeq, Symbols: []int{}, Kids: []api.Regex{}}, seq(none), alt(none), seq(empty, empty), alt(seq(), seq()),
		star(none), star(empty), star(star(star(set(1)))), {Kind: api.RxStar, Symbols: []int{}, Kids: []api.Regex{set(0)}},
	} {
		for _, x := range append(around(r), r) {
			if !regex.Valid(x) {
				t.Errorf("P7.1: Valid(%v) = false", x)
			}
		}
	}
}

// TestRandomValid changes one part of an expression, so that it may be valid or not.
func TestRandomValid(t *testing.T) {
	r := rand.New(rand.NewSource(1))
	results := map[bool]int{}
	for range 30000 {
		x := random(r, 4)
		at := &x
		for len(at.Kids) > 0 && r.Intn(3) > 0 {
			at = &at.Kids[r.Intn(len(at.Kids))]
		}
		switch r.Intn(4) {
		case 0:
			at.Kind = r.Intn(8) - 1
		case 1:
			at.Symbols = append(slices.Clone(at.Symbols), r.Intn(70)-3)
		case 2:
			at.Kids = append(slices.Clone(at.Kids), random(r, 1))
		case 3:
			at.Symbols, at.Kids = nil, nil
		}
		valid := validBy(x)
		results[valid]++
		if regex.Valid(x) != valid {
			t.Fatalf("P7.1: Valid(%v) = %v", x, !valid)
		}
		if !valid {
			rejected(t, x)
		}
	}
	if results[true] < 5000 || results[false] < 5000 {
		t.Error("these are valid and not:", results)
	}
}

func TestSimple(t *testing.T) {
	a, b, c := set(0), set(1), set(2)
	ab := seq(a, b)
	for _, x := range []struct{ r, want api.Regex }{
		{none, none}, {empty, empty}, {a, a}, {set(0, 5, 63), set(0, 5, 63)},
		// Sequences.
		{seq(), empty}, {seq(a), a}, {seq(none), none}, {seq(empty), empty}, {seq(empty, empty), empty}, {seq(a, b), ab}, {seq(b, a), seq(b, a)},
		{seq(a, empty, b), ab}, {seq(empty, a, empty), a}, {seq(a, none, b), none}, {seq(empty, none), none}, {seq(a, alt(), b), none}, {seq(a, seq(b, none)), none},
		{seq(a, seq(b, c)), seq(a, b, c)}, {seq(seq(a, b), c), seq(a, b, c)}, {seq(seq(seq(), seq(a)), seq(seq(b, seq(c)))), seq(a, b, c)}, {seq(a, a), seq(a, a)},
		{seq(alt(seq(a, b)), alt(none, seq(c, a))), seq(a, b, c, a)}, {seq(star(none), a), a}, {seq(star(a), star(a)), seq(star(a), star(a))},
		{seq(seq(a, none), b), none}, {seq(alt(seq(a, none)), b), none},
		// Alternatives.
		{alt(), none}, {alt(a), a}, {alt(none), none}, {alt(none, none), none}, {alt(empty), empty}, {alt(empty, empty), empty}, {alt(none, a), a},
		{alt(a, b), set(0, 1)}, {alt(b, a), set(0, 1)}, {alt(set(1, 3), set(0, 1, 63)), set(0, 1, 3, 63)}, {alt(a, a), a}, {alt(ab, ab), ab},
		{alt(a, empty), alt(empty, a)}, {alt(star(a), ab, b, empty), alt(b, ab, star(a))}, {alt(star(a), empty), star(a)}, {alt(empty, star(a)), star(a)},
		{alt(ab, empty), alt(empty, ab)}, {alt(empty, seq(star(a), star(b))), seq(star(a), star(b))}, {alt(empty, seq(star(a), b)), alt(empty, seq(star(a), b))},
		{alt(empty, empty, ab), alt(empty, ab)}, {alt(empty, seq(maybe(a), maybe(b))), seq(maybe(a), maybe(b))},
		{alt(ab, alt(c, alt(a, star(b)))), alt(set(0, 2), ab, star(b))}, {alt(alt(empty, a), b), alt(empty, set(0, 1))}, {alt(alt(empty, a), star(b)), alt(a, star(b))},
		{alt(seq(alt(ab, c)), a), alt(set(0, 2), ab)}, {alt(seq(alt(c, empty)), star(b)), alt(c, star(b))}, {alt(seq(none), seq(b, none)), none},
		{alt(seq(b, a), ab), alt(ab, seq(b, a))}, {alt(star(b), star(a)), alt(star(a), star(b))}, {alt(seq(a, b, c), ab), alt(ab, seq(a, b, c))},
		{alt(seq(set(0, 1), a), seq(a, a), seq(a, set(1, 2))), alt(seq(a, a), seq(a, set(1, 2)), seq(set(0, 1), a))},
		{alt(seq(star(a), a), seq(maybe(a), a), seq(a, a)), alt(seq(a, a), seq(maybe(a), a), seq(star(a), a))},
		// Repetitions.
		{star(none), empty}, {star(empty), empty}, {star(alt()), empty}, {star(seq()), empty}, {star(a), star(a)}, {star(star(a)), star(a)}, {star(star(star(star(ab)))), star(ab)},
		{star(maybe(a)), star(a)}, {star(alt(a, empty, ab)), star(alt(a, ab))}, {star(alt(empty, ab)), star(ab)}, {star(alt(empty, star(a))), star(a)}, {star(seq(alt(star(a)))), star(a)},
		{star(alt(empty, a, star(b))), star(alt(a, star(b)))}, {star(seq(star(a), star(b))), star(seq(star(a), star(b)))}, {star(alt(empty, alt(empty, b), a)), star(set(0, 1))},
		{star(alt(empty, maybe(ab), none)), star(ab)},
	} {
		if got := regex.Simple(x.r); !reflect.DeepEqual(got, x.want) {
			t.Errorf("P7.1: Simple(%v) = %v, want %v", x.r, got, x.want)
		}
		if got := regex.Simple(x.want); !reflect.DeepEqual(got, x.want) {
			t.Errorf("P7.9: Simple(%v) = %v", x.want, got)
		}
	}
}

func TestRandomSimple(t *testing.T) {
	r := rand.New(rand.NewSource(2))
	results := map[int]int{}
	for range 30000 {
		x := random(r, 2+r.Intn(4))
		s := regex.Simple(x)
		if want := simpleBy(x); !reflect.DeepEqual(s, want) {
			t.Fatalf("P7.1: Simple(%v) = %v, want %v", x, s, want)
		}
		results[s.Kind]++
		if again := regex.Simple(s); !reflect.DeepEqual(again, s) {
			t.Fatalf("P7.9: Simple(%v) = %v", s, again)
		}
		if !reflect.DeepEqual(wordsBy(s, 3), wordsBy(x, 3)) {
			t.Fatalf("P7.7: Simple(%v) = %v has other words", x, s)
		}
	}
	for kind := range api.RxStar + 1 {
		if results[kind] < 500 {
			t.Error("the normal forms have these kinds:", results)
		}
	}
}

func TestEmpty(t *testing.T) {
	a, b := set(0), set(1)
	for _, x := range []struct {
		r    api.Regex
		want bool
	}{
		{none, false}, {empty, true}, {a, false}, {seq(), true}, {alt(), false}, {star(none), true}, {star(a), true},
		{seq(empty), true}, {seq(a), false}, {seq(star(a), star(b)), true}, {seq(star(a), b), false}, {seq(b, star(a)), false}, {seq(none, empty), false}, {seq(empty, none), false},
		{alt(a, b), false}, {alt(a, empty), true}, {alt(empty, a), true}, {alt(none, seq(a, b)), false}, {alt(a, seq(star(a), maybe(b))), true}, {alt(none, none), false},
	} {
		if got := regex.Empty(x.r); got != x.want {
			t.Errorf("P7.2: Empty(%v) = %v", x.r, got)
		}
	}
	r := rand.New(rand.NewSource(3))
	results := map[bool]int{}
	for range 20000 {
		x := random(r, 4)
		e := regex.Empty(x)
		if e != wordsBy(x, 0)[""] || e != regex.Match(x, nil) {
			t.Fatalf("P7.2: Empty(%v) = %v", x, e)
		}
		results[e]++
	}
	if results[true] < 3000 || results[false] < 3000 {
		t.Error("these have the empty word and not:", results)
	}
}

func TestReverse(t *testing.T) {
	a, b, c := set(0), set(1), set(2)
	for _, x := range []struct{ r, want api.Regex }{
		{none, none}, {empty, empty}, {set(0, 2), set(0, 2)}, {seq(), empty}, {alt(), none},
		{seq(a, b), seq(b, a)}, {seq(a, b, c), seq(c, b, a)}, {seq(a, seq(b, c)), seq(c, b, a)}, {seq(seq(a, b), seq(c, a)), seq(a, c, b, a)},
		{alt(a, b), set(0, 1)}, {alt(seq(a, b), seq(b, c)), alt(seq(b, a), seq(c, b))}, {alt(seq(a, c), seq(b, a)), alt(seq(a, b), seq(c, a))},
		{alt(seq(a, b), seq(b, a)), alt(seq(a, b), seq(b, a))}, {star(seq(a, b)), star(seq(b, a))}, {seq(a, star(seq(b, maybe(seq(b, c))))), seq(star(seq(maybe(seq(c, b)), b)), a)},
		{seq(a, none), none}, {star(star(seq(a, b))), star(seq(b, a))},
	} {
		if got := regex.Reverse(x.r); !reflect.DeepEqual(got, x.want) {
			t.Errorf("P7.2: Reverse(%v) = %v, want %v", x.r, got, x.want)
		}
	}
}

func TestRandomReverse(t *testing.T) {
	r := rand.New(rand.NewSource(4))
	changed := 0
	for range 20000 {
		x := random(r, 2+r.Intn(4))
		back := regex.Reverse(x)
		if want := simpleBy(reverseBy(x)); !reflect.DeepEqual(back, want) {
			t.Fatalf("P7.2: Reverse(%v) = %v, want %v", x, back, want)
		}
		if again := regex.Simple(back); !reflect.DeepEqual(again, back) {
			t.Fatalf("P7.9: Reverse(%v) = %v, and Simple of it %v", x, back, again)
		}
		s := regex.Simple(x)
		if twice := regex.Reverse(back); !reflect.DeepEqual(twice, s) {
			t.Fatalf("P7.9: Reverse of Reverse(%v) = %v, want %v", x, twice, s)
		}
		if !same(back, s) {
			changed++
		}
		words := map[string]bool{}
		for w := range wordsBy(x, 3) {
			turned := []byte(w)
			slices.Reverse(turned)
			words[string(turned)] = true
		}
		if !reflect.DeepEqual(wordsBy(back, 3), words) {
			t.Fatalf("P7.7: Reverse(%v) = %v has other words than the reversed ones", x, back)
		}
	}
	if changed < 2000 {
		t.Error("reversed, these are others:", changed)
	}
}

func TestDerive(t *testing.T) {
	a, b, c := set(0), set(1), set(2)
	example := seq(a, star(set(1, 2)))
	for _, x := range []struct {
		r      api.Regex
		symbol int
		want   api.Regex
	}{
		{example, 0, star(set(1, 2))}, {example, 1, none}, {example, 2, none}, {star(set(1, 2)), 2, star(set(1, 2))},
		{none, 0, none}, {empty, 0, none}, {a, 0, empty}, {a, 1, none}, {set(0, 62, 63), 63, empty}, {set(0, 62, 63), 62, empty}, {set(0, 62, 63), 61, none},
		{seq(), 0, none}, {alt(), 0, none}, {seq(a, b, c), 0, seq(b, c)}, {seq(a, b, c), 1, none}, {seq(maybe(a), b, c), 1, c}, {seq(maybe(a), b, c), 0, seq(b, c)}, {seq(maybe(a), b, c), 2, none},
		{seq(star(a), a), 0, alt(empty, seq(star(a), a))}, {seq(star(a), star(b), c), 1, seq(star(b), c)}, {seq(star(a), star(b), c), 0, seq(star(a), star(b), c)}, {seq(star(a), star(b), c), 2, empty},
		{seq(star(a), star(a)), 0, alt(seq(star(a), star(a)), star(a))}, {seq(b, none), 1, none},
		{alt(seq(a, b), seq(a, c), seq(b, c)), 0, set(1, 2)}, {alt(seq(a, b), star(a)), 0, alt(b, star(a))}, {alt(a, b), 0, empty}, {alt(empty, a), 0, empty},
		{seq(alt(a, seq(star(a), star(b))), c), 2, empty}, {seq(alt(a, seq(star(a), star(b))), c, b), 1, seq(star(b), c, b)}, {seq(alt(seq(a, b), star(b)), c), 2, empty}, {seq(alt(star(b), seq(star(b), a)), c), 2, empty}, {seq(alt(a, seq(star(a), star(b), a)), c), 2, none},
		{star(seq(a, b)), 0, seq(b, star(seq(a, b)))}, {star(seq(a, b)), 1, none}, {star(a), 0, star(a)}, {star(maybe(a)), 0, star(a)}, {star(star(a)), 0, star(a)},
		{star(alt(a, seq(a, b))), 0, seq(maybe(b), star(alt(a, seq(a, b))))}, {star(seq(maybe(a), maybe(b))), 1, star(seq(maybe(a), maybe(b)))},
	} {
		if got := regex.Derive(x.r, x.symbol); !reflect.DeepEqual(got, x.want) {
			t.Errorf("P7.3: Derive(%v, %d) = %v, want %v", x.r, x.symbol, got, x.want)
		}
		for _, n := range extremes {
			if got := regex.Derive(x.r, n); !reflect.DeepEqual(got, none) {
				t.Errorf("P7.3: Derive(%v, %d) = %v", x.r, n, got)
			}
		}
	}
}

func TestRandomDerive(t *testing.T) {
	r := rand.New(rand.NewSource(5))
	results := map[int]int{}
	for range 20000 {
		x := random(r, 2+r.Intn(4))
		words := wordsBy(x, 3)
		for _, n := range append([]int{61}, symbols...) {
			d := regex.Derive(x, n)
			if want := simpleBy(deriveBy(simpleBy(x), n)); !reflect.DeepEqual(d, want) {
				t.Fatalf("P7.3: Derive(%v, %d) = %v, want %v", x, n, d, want)
			}
			if again := regex.Simple(d); !reflect.DeepEqual(again, d) {
				t.Fatalf("P7.9: Derive(%v, %d) = %v, and Simple of it %v", x, n, d, again)
			}
			behind := map[string]bool{}
			for w := range words {
				if w != "" && int(w[0]) == n {
					behind[w[1:]] = true
				}
			}
			if !reflect.DeepEqual(wordsBy(d, 2), behind) {
				t.Fatalf("P7.7: Derive(%v, %d) = %v has other words", x, n, d)
			}
			results[d.Kind]++
		}
	}
	for kind := range api.RxStar + 1 {
		if results[kind] < 500 {
			t.Error("the derivatives have these kinds:", results)
		}
	}
}
