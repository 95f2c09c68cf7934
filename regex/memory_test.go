package regex_test

import (
	"math/rand"
	"reflect"
	"slices"
	"testing"

	"wordbook/api"
	"wordbook/regex"
)

// arrays adds, for each list of an expression, the address of its first element, also of spare capacity.
func arrays(r api.Regex, found map[any]int) {
	if cap(r.Symbols) > 0 {
		found[&r.Symbols[:1][0]]++
	}
	if cap(r.Kids) > 0 {
		found[&r.Kids[:1][0]]++
	}
	for _, k := range r.Kids {
		arrays(k, found)
	}
}

// spoil changes an expression and its spare capacity everywhere.
func spoil(r api.Regex) {
	for _, k := range r.Kids {
		spoil(k)
	}
	for i := range r.Symbols[:cap(r.Symbols)] {
		r.Symbols[:cap(r.Symbols)][i] = 61
	}
	for i := range r.Kids[:cap(r.Kids)] {
		r.Kids[:cap(r.Kids)][i] = set(61)
	}
}

// roomy is a copy of an expression whose lists have spare capacity.
func roomy(r api.Regex) api.Regex {
	c := api.Regex{Kind: r.Kind, Symbols: append(make([]int, 0, len(r.Symbols)+3), r.Symbols...), Kids: make([]api.Regex, 0, len(r.Kids)+3)}
	for _, k := range r.Kids {
		c.Kids = append(c.Kids, roomy(k))
	}
	return c
}

// wholes are the lists of an expression with their spare capacity, one after the other.
func wholes(r api.Regex) [][]int {
	l := [][]int{slices.Clone(r.Symbols[:cap(r.Symbols)]), {len(r.Kids), cap(r.Kids)}}
	for _, k := range r.Kids[:cap(r.Kids)] {
		l = append(append(l, []int{k.Kind}), wholes(k)...)
	}
	return l
}

// TestMemory checks that no call changes an argument or its spare capacity, and that results are new memory, everywhere.
func TestMemory(t *testing.T) {
	r := rand.New(rand.NewSource(10))
	sets := []api.Set{{Name: "v", Symbols: append(make([]int, 0, 5), 0, 2)}}
	word := append(make([]int, 0, 5), 0, 1)
	letters := append(make([]api.Letter, 0, 5), abc()...)
	for range 5000 {
		x := roomy(random(r, 4))
		before := wholes(x)
		given := map[any]int{}
		arrays(x, given)
		given[&sets[0].Symbols[0]]++
		results := []func() api.Regex{
			func() api.Regex { return regex.Simple(x) },
			func() api.Regex { return regex.Reverse(x) },
			func() api.Regex { return regex.Derive(x, 0) },
			func() api.Regex { return regex.Derive(x, api.Plus) },
			func() api.Regex { return regex.Derive(seq(star(x), star(x), x), 1) },
			func() api.Regex { p, _ := regex.Parse("{v}({v}.|{v})*", letters, sets); return p },
		}
		for _, call := range results {
			y := call()
			found := map[any]int{}
			arrays(y, found)
			for p, n := range found {
				if n > 1 || given[p] > 0 {
					t.Fatalf("R4: %v, from %v, has shared memory", y, x)
				}
			}
			code := encode(y)
			spoil(y)
			if again := call(); !slices.Equal(encode(again), code) {
				t.Fatalf("R4: a result for %v is then %v", x, again)
			}
		}
		regex.Valid(x)
		regex.Empty(x)
		regex.Match(x, word)
		regex.Print(x, letters)
		if after := wholes(x); !reflect.DeepEqual(after, before) {
			t.Fatalf("R4: %v was changed to %v", before, after)
		}
	}
	if !slices.Equal(word[:5], []int{0, 1, 0, 0, 0}) || !slices.Equal(sets[0].Symbols[:5], []int{0, 2, 0, 0, 0}) || !slices.Equal(letters[:5], append(abc(), make([]api.Letter, 2)...)) {
		t.Error("R4: an argument was changed:", word[:5], sets, letters[:5])
	}
}

// nest applies a function some times.
func nest(times int, r api.Regex, f func(api.Regex) api.Regex) api.Regex {
	for range times {
		r = f(r)
	}
	return r
}

// TestDeep calls everything with expressions of 2^16 levels.
func TestDeep(t *testing.T) {
	const levels = 1<<16 - 1
	const half = levels / 2
	a, b := set(0), set(1)
	for name, x := range map[string]struct {
		r                   api.Regex
		kind, kids, derived int
		empty               bool
	}{
		"stars":          {nest(levels, a, star), api.RxStar, 1, api.RxStar, true},
		"one kid":        {nest(levels, a, func(r api.Regex) api.Regex { return seq(r) }), api.RxSet, 0, api.RxEmpty, false},
		"left":           {nest(levels, a, func(r api.Regex) api.Regex { return seq(r, b) }), api.RxSeq, levels + 1, api.RxSeq, false},
		"right":          {nest(levels, a, func(r api.Regex) api.Regex { return seq(a, r) }), api.RxSeq, levels + 1, api.RxSeq, false},
		"alternatives":   {nest(levels, a, func(r api.Regex) api.Regex { return alt(r, b) }), api.RxSet, 0, api.RxEmpty, false},
		"maybe":          {nest(levels, a, maybe), api.RxAlt, 2, api.RxEmpty, true},
		"both":           {nest(half, a, func(r api.Regex) api.Regex { return alt(a, seq(b, r)) }), api.RxAlt, 2, api.RxEmpty, false},
		"both, one kid":  {nest(half, a, func(r api.Regex) api.Regex { return alt(seq(r, b)) }), api.RxSeq, half + 1, api.RxSeq, false},
		"star and right": {nest(half, b, func(r api.Regex) api.Regex { return star(seq(a, r)) }), api.RxStar, 1, api.RxSeq, true},
	} {
		s := regex.Simple(x.r)
		if !regex.Valid(x.r) || s.Kind != x.kind || len(s.Kids) != x.kids {
			t.Errorf("P7.1: %s: the normal form has the kind %d and %d kids", name, s.Kind, len(s.Kids))
		}
		if back := regex.Reverse(x.r); back.Kind != x.kind || len(back.Kids) != x.kids {
			t.Errorf("P7.2: %s: reversed, it has the kind %d and %d kids", name, back.Kind, len(back.Kids))
		}
		if d := regex.Derive(x.r, 0); d.Kind != x.derived {
			t.Errorf("P7.3: %s: the derivative has the kind %d", name, d.Kind)
		}
		if regex.Empty(x.r) != x.empty || regex.Match(x.r, nil) != x.empty || regex.Match(x.r, []int{1, 0, 0}) {
			t.Errorf("P7.2, P7.4: %s: the words are wrong", name)
		}
		if p := regex.Print(x.r, abc()); p == "" {
			t.Errorf("P7.6: %s: nothing is printed", name)
		}
	}
	for _, f := range []func(api.Regex) api.Regex{star, maybe, func(r api.Regex) api.Regex { return seq(a, r, a) }} {
		r := nest(levels, set(64), f)
		if regex.Valid(r) || regex.Empty(r) || regex.Match(r, nil) || regex.Simple(r).Kind != api.RxNone || regex.Reverse(r).Kind != api.RxNone || regex.Derive(r, 0).Kind != api.RxNone || regex.Print(r, abc()) != "" {
			t.Error("P7.1 to P7.6: an expression is valid with a set that is not")
		}
	}
}
