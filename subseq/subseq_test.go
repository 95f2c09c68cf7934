package subseq_test

import (
	"math/rand"
	"reflect"
	"slices"
	"testing"

	"wordbook/api"
	"wordbook/automaton"
	"wordbook/fst"
	"wordbook/subseq"
)

// TestExamples checks the examples of the chapter.
func TestExamples(t *testing.T) {
	a := example()
	runs(t, "P10.1: Run", a, w(0), w(3, 5))
	runs(t, "P10.1: Run", a, w(0, 0), w(3, 5, 5))
	runs(t, "P10.1: Run", a, w(0, 1, 0), w(3, 3, 5))
	runsNot(t, "P10.1: Run", a, w(1))
	is(t, "P10.4: Min", subseq.Min(a), exampleMin())
	if subseq.Functional(machine(1, []int{0}, arc(0, 0, 1, 0), arc(0, 0, 2, 0))) {
		t.Error("P10.2: Functional of two arcs with two outputs")
	}
}

// validSubs are subsequential transducers that are valid, each of which is near to one that is not.
func validSubs() map[string]api.Sub {
	great := blank(64, api.MaxStates)
	great.Next[api.MaxStates-1][63], great.Out[api.MaxStates-1][63] = api.MaxStates-1, w(63, 0)
	return map[string]api.Sub{
		"the example":             example(),
		"no steps":                blank(1, 1),
		"the greatest size":       blank(64, 1),
		"the most states":         great,
		"the symbols 0 and 63":    sub(1, 2, w(0, 63), map[int][]int{1: w(63, 0)}, step{0, 0, 1, w(0, 63, 63)}),
		"long words":              sub(1, 1, times(5000, 63), map[int][]int{0: times(5000, 0)}, step{0, 0, 0, times(5000, 1)}),
		"empty lists":             {Size: 1, Head: []int{}, Next: [][]int{{-1}}, Out: [][][]int{{{}}}, Final: []bool{false}, Tail: [][]int{{}}},
		"a state without an end":  sub(1, 2, nil, nil, step{0, 0, 1, nil}),
		"a state not reached":     sub(1, 2, nil, map[int][]int{1: w(1)}, step{1, 0, 0, w(1)}),
		"final without a Tail":    sub(1, 1, nil, map[int][]int{0: nil}),
		"a step without an Out":   sub(1, 1, nil, nil, step{0, 0, 0, nil}),
		"spare capacity of lists": {Size: 1, Next: append(make([][]int, 0, 9), w(-1)), Out: [][][]int{append(make([][]int, 0, 9), nil)}, Final: make([]bool, 1, 9), Tail: make([][]int, 1, 9)},
	}
}

// notValid are subsequential transducers each of which is not valid in one way.
func notValid() map[string]api.Sub {
	l := map[string]api.Sub{
		"the zero value":     {},
		"no states":          {Size: 1},
		"empty lists":        {Size: 2, Next: [][]int{}, Out: [][][]int{}, Final: []bool{}, Tail: [][]int{}},
		"too many states":    blank(1, api.MaxStates+1),
		"far too many":       blank(1, 3*api.MaxStates),
		"size 0":             blank(0, 1),
		"size 65":            blank(65, 1),
		"Tail without Final": sub(1, 1, nil, nil),
		"Out without Next":   sub(2, 2, nil, map[int][]int{1: nil}, step{1, 1, -1, w(1)}),
	}
	l["Tail without Final"].Tail[0] = w(1)
	change := func(what string, f func(s *api.Sub)) {
		s := copySub(example())
		f(&s)
		l[what] = s
	}
	change("a larger size", func(s *api.Sub) { s.Size = 3 })
	change("a smaller size", func(s *api.Sub) { s.Size = 1 })
	change("no Next", func(s *api.Sub) { s.Next = nil })
	change("less Next", func(s *api.Sub) { s.Next, s.Next[0][0] = s.Next[:1], 0 })
	change("more Next", func(s *api.Sub) { s.Next = append(s.Next, w(-1, -1)) })
	change("no Out", func(s *api.Sub) { s.Out = nil })
	change("less Out", func(s *api.Sub) { s.Out = s.Out[:1] })
	change("more Out", func(s *api.Sub) { s.Out = append(s.Out, make([][]int, 2)) })
	change("no Final", func(s *api.Sub) { s.Final = nil })
	change("less Final", func(s *api.Sub) { s.Final = s.Final[:1] })
	change("more Final", func(s *api.Sub) { s.Final = append(s.Final, false) })
	change("no Tail", func(s *api.Sub) { s.Tail = nil })
	change("less Tail", func(s *api.Sub) { s.Tail = s.Tail[:1] })
	change("more Tail", func(s *api.Sub) { s.Tail = append(s.Tail, nil) })
	for p, name := range []string{" of the start", " of another state"} {
		change("a shorter Next"+name, func(s *api.Sub) { s.Next[p] = s.Next[p][:1] })
		change("a longer Next"+name, func(s *api.Sub) { s.Next[p] = append(s.Next[p], -1) })
		change("a shorter Out"+name, func(s *api.Sub) { s.Out[p] = s.Out[p][:1] })
		change("a longer Out"+name, func(s *api.Sub) { s.Out[p] = append(s.Out[p], nil) })
		for _, n := range append(extremes, 2, 3) {
			change("a Next that is no state"+name, func(s *api.Sub) { s.Next[p][0] = n })
		}
	}
	for _, n := range append(extremes, -1, 64, 65) {
		change("a Head with no symbol", func(s *api.Sub) { s.Head = w(n) })
		change("a Head with no symbol at its end", func(s *api.Sub) { s.Head = w(1, 2, n) })
		change("an Out with no symbol", func(s *api.Sub) { s.Out[1][1] = w(n) })
		change("an Out with no symbol at its end", func(s *api.Sub) { s.Out[0][0] = w(1, 2, n) })
		change("a Tail with no symbol", func(s *api.Sub) { s.Tail[1] = w(n) })
		change("a Tail with no symbol at its end", func(s *api.Sub) { s.Tail[1] = w(1, 2, n) })
	}
	for _, n := range append(extremes, -1) {
		change("an extreme size", func(s *api.Sub) { s.Size = n })
	}
	return l
}

func TestValid(t *testing.T) {
	for what, s := range validSubs() {
		if !subseq.Valid(s) {
			t.Errorf("P10.1: %s: not valid", what)
		}
	}
	for what, s := range notValid() {
		rejected(t, what, s)
	}
}

// rejected checks that a subsequential transducer is treated as one that is not valid, everywhere.
func rejected(t *testing.T, what string, s api.Sub) {
	t.Helper()
	if subseq.Valid(s) {
		t.Errorf("P10.1: %s: valid", what)
	}
	for _, input := range [][]int{nil, w(0), w(0, 0), w(-1)} {
		runsNot(t, "P10.1: "+what, s, input)
	}
	zero(t, "P10.4: "+what, subseq.Min(s))
	if u := subseq.Of(s); !reflect.DeepEqual(u, api.FST{}) {
		t.Errorf("P10.5: %s: %v, want the zero value", what, u)
	}
	for _, other := range []api.Sub{s, example(), blank(1, 1)} {
		if subseq.Same(s, other) || subseq.Same(other, s) {
			t.Errorf("P10.6: %s: the same", what)
		}
	}
}

// TestRandomValid changes one number of a transducer, so that it may be valid or not.
func TestRandomValid(t *testing.T) {
	r := rand.New(rand.NewSource(1))
	results := map[bool]int{}
	for range 20000 {
		s := randomSub(r, 1+r.Intn(3), 1+r.Intn(4), 64)
		p, x := r.Intn(len(s.Next)), r.Intn(s.Size)
		symbol := []int{-2, -1, 0, 1, 62, 63, 64, 65}[r.Intn(8)]
		valid := symbol >= 0 && symbol < 64
		switch r.Intn(4) {
		case 0:
			s.Head = append(s.Head, symbol)
		case 1:
			s.Out[p][x] = append(s.Out[p][x], symbol)
			valid = valid && s.Next[p][x] >= 0
		case 2:
			s.Tail[p] = append(s.Tail[p], symbol)
			valid = valid && s.Final[p]
		case 3:
			to := r.Intn(len(s.Next)+3) - 2
			s.Next[p][x] = to
			valid = to >= 0 && to < len(s.Next) || to == -1 && len(s.Out[p][x]) == 0
		}
		results[valid]++
		if subseq.Valid(s) != valid {
			t.Fatalf("P10.1: Valid(%v) = %v", s, !valid)
		}
	}
	if results[true] < 3000 || results[false] < 3000 {
		t.Error("these are valid and not:", results)
	}
}

func TestRun(t *testing.T) {
	runsNot(t, "P10.1: without outputs", blank(2, 1), nil)
	runs(t, "P10.1: of the empty word", sub(1, 1, w(1, 2), map[int][]int{0: w(3)}), nil, w(1, 2, 3))
	runs(t, "P10.1: of the empty word, without symbols", sub(1, 1, nil, map[int][]int{0: nil}), []int{}, nil)
	s := sub(2, 3, w(9), map[int][]int{0: w(8), 2: nil}, step{0, 1, 1, w(1, 2)}, step{1, 0, 2, nil}, step{2, 0, 0, w(3)}, step{2, 1, 2, w(4, 4)})
	runs(t, "P10.1", s, nil, w(9, 8))
	runs(t, "P10.1", s, w(1, 0), w(9, 1, 2))
	runs(t, "P10.1", s, w(1, 0, 1, 1), w(9, 1, 2, 4, 4, 4, 4))
	runs(t, "P10.1", s, w(1, 0, 0), w(9, 1, 2, 3, 8))
	for what, input := range map[string][]int{"no step": w(0), "not final": w(1), "no step later": w(1, 1), "no step at last": w(1, 0, 0, 0), "not final at last": w(1, 0, 0, 1)} {
		runsNot(t, "P10.1: "+what, s, input)
	}
	all := row(64, 3, w(7))
	runs(t, "P10.1: the symbols 0 and 63", all, w(0, 63), w(7, 7))
	for _, n := range append(extremes, -1, 64, 65) {
		runsNot(t, "P10.1: no symbol", all, w(n, 0))
		runsNot(t, "P10.1: no symbol at last", all, w(0, n))
		runsNot(t, "P10.1: no symbol behind the output", all, w(0, 0, n))
	}
	runsNot(t, "P10.1: a symbol from the size on", s, w(2))
	runsNot(t, "P10.1: a symbol from the size on, later", s, w(1, 2))
}

func TestRandomRun(t *testing.T) {
	r := rand.New(rand.NewSource(2))
	outputs := 0
	for range 3000 {
		s := randomSub(r, 1+r.Intn(3), 1+r.Intn(4), 64)
		for _, input := range wordsUpTo(4, s.Size+1) {
			want, ok := outputBy(s, input)
			if ok {
				outputs++
				runs(t, "P10.1: random", s, input, want)
			} else {
				runsNot(t, "P10.1: random", s, input)
			}
		}
		if t.Failed() {
			t.Fatal(s)
		}
	}
	if outputs < 20000 {
		t.Error("these words have outputs:", outputs)
	}
}

func TestLongRun(t *testing.T) {
	s := sub(2, 2, nil, map[int][]int{0: nil}, step{0, 0, 0, w(1, 2)}, step{0, 1, 1, nil})
	input := times(1<<20, 0)
	got, ok := subseq.Run(s, input)
	if !ok || len(got) != 2<<20 || got[0] != 1 || got[2<<20-1] != 2 {
		t.Error("P10.1: a long word:", len(got), ok)
	}
	// What a word without an output writes is longer than any memory.
	s.Out[0][0] = times(1<<20, 1)
	runsNot(t, "P10.1: a long word without an output", s, append(input, 1))
}

// relates checks that the outputs by Of of all words up to a length are those of Run.
func relates(t *testing.T, s api.Sub, u api.FST, length int) {
	t.Helper()
	if s.Size > 4 {
		length = 1
	}
	for _, input := range wordsUpTo(length, min(s.Size+1, 64)) {
		l, code := fst.Apply(u, input, 1)
		out, ok := outputBy(s, input)
		if code != api.OK || len(l) > 1 || ok != (len(l) == 1) || ok && !slices.Equal(l[0], out) {
			t.Fatalf("P10.5: Of(%v) for %v: %v, error %d, want %v, %v", short(s), input, l, code, out, ok)
		}
	}
}

// sizes are the states and arcs that a result of Of has at most.
func sizes(s api.Sub) (states, arcs int) {
	n, k, m, x := len(s.Next), 0, 0, 0
	words := append([][]int{s.Head}, s.Tail...)
	for p := range s.Next {
		words = append(words, s.Out[p]...)
		for _, to := range s.Next[p] {
			if to != -1 {
				k++
			}
		}
		if len(s.Tail[p]) > 0 {
			m++
		}
	}
	for _, word := range words {
		if len(word) > 1 {
			x += len(word) - 1
		}
	}
	return n + 2 + x, k + 1 + m + x
}

// fits checks that Of has a result that is small enough.
func fits(t *testing.T, what string, s api.Sub) api.FST {
	t.Helper()
	u := subseq.Of(s)
	states, arcs := sizes(s)
	if !fst.Valid(u) || len(u.Final) > states || len(u.Arcs) > arcs {
		t.Errorf("P10.5: %s: %d states and %d arcs, at most %d and %d", what, len(u.Final), len(u.Arcs), states, arcs)
	}
	return u
}

func TestOf(t *testing.T) {
	for what, s := range map[string]api.Sub{
		"the example":                example(),
		"without outputs":            blank(2, 1),
		"the empty word":             sub(2, 1, nil, map[int][]int{0: nil}),
		"Head alone":                 sub(1, 1, w(4), map[int][]int{0: nil}),
		"Tail alone":                 sub(1, 1, nil, map[int][]int{0: w(4)}),
		"long words":                 sub(2, 2, w(1, 2, 3), map[int][]int{0: w(4, 5, 6, 7), 1: w(8, 9)}, step{0, 0, 1, w(10, 11)}, step{1, 1, 0, w(12, 13, 14)}, step{1, 0, 0, nil}),
		"a Tail and a way on":        sub(1, 1, nil, map[int][]int{0: w(1)}, step{0, 0, 0, w(1)}),
		"back to the start":          sub(2, 2, w(1), map[int][]int{0: nil, 1: w(2)}, step{0, 0, 1, nil}, step{1, 1, 0, nil}),
		"final with and without one": sub(1, 3, nil, map[int][]int{0: w(1), 1: nil, 2: w(2, 3)}, step{0, 0, 1, nil}, step{1, 0, 2, nil}),
		"a state not reached":        sub(1, 2, nil, map[int][]int{0: nil, 1: w(1, 1)}, step{1, 0, 0, w(1, 2, 3)}),
		"the greatest symbols":       sub(64, 1, w(63), map[int][]int{0: w(63)}, step{0, 63, 0, w(63, 63)}),
	} {
		relates(t, s, fits(t, what, s), 3)
	}
	r := rand.New(rand.NewSource(3))
	for range 1000 {
		s := randomSub(r, 1+r.Intn(3), 1+r.Intn(4), 64)
		relates(t, s, fits(t, "random", s), 4)
	}
}

// wide is a subsequential transducer with as many steps as given, of at most 2046 states.
func wide(states, steps int) api.Sub {
	s := blank(64, states)
	s.Final[states-1] = true
	for i := range steps {
		p, x := i%states, i/states
		s.Next[p][x] = (p + x + 1) % states
	}
	return s
}

func TestOfLimits(t *testing.T) {
	states, arcs := api.MaxStates, api.MaxArcs
	with := func(s api.Sub, f func(s *api.Sub)) api.Sub {
		f(&s)
		return s
	}
	for what, x := range map[string]struct {
		s            api.Sub
		states, arcs int
	}{
		"states":                        {row(1, 2046, nil), states, 2046},
		"states, by a Head":             {sub(1, 1, times(2046, 1), map[int][]int{0: nil}), states, 2046},
		"states, by a Tail":             {sub(1, 1, nil, map[int][]int{0: times(2046, 1)}), states, 2047},
		"states, by an Out":             {sub(1, 1, nil, map[int][]int{0: nil}, step{0, 0, 0, times(2046, 1)}), states, 2047},
		"states, by a word not reached": {sub(1, 2, nil, map[int][]int{0: nil}, step{1, 0, 0, times(2045, 1)}), states, 2046},
		"states, by all words":          {sub(2, 3, times(501, 1), map[int][]int{0: times(401, 2), 2: times(301, 3)}, step{0, 0, 1, times(201, 4)}, step{1, 1, 2, times(644, 5)}), states, 2048},
		"arcs":                          {wide(200, arcs-1), 202, arcs},
		"arcs, by Tails":                {with(wide(200, arcs-3), func(s *api.Sub) { s.Final[0], s.Tail[0], s.Tail[199] = true, w(1), w(2) }), 202, arcs},
		"arcs, by words":                {with(wide(200, arcs-10), func(s *api.Sub) { s.Head, s.Out[3][0], s.Tail[199] = times(4, 1), times(4, 1), times(3, 1) }), 210, arcs},
		"both":                          {with(wide(1000, 7144), func(s *api.Sub) { s.Head, s.Tail[999] = times(1000, 1), times(48, 2) }), states, arcs},
	} {
		u := fits(t, what, x.s)
		if n, k := sizes(x.s); n != x.states || k != x.arcs {
			t.Errorf("%s: %d states and %d arcs, want %d and %d", what, n, k, x.states, x.arcs)
		}
		if d, code := fst.Domain(u, x.s.Size); code != api.OK || len(d.Next) < 1 {
			t.Errorf("P10.10: %s: error %d", what, code)
		}
	}
	for what, s := range map[string]api.Sub{
		"states":                        row(1, 2047, nil),
		"the most states":               row(1, 2048, nil),
		"states, by a Head":             sub(1, 1, times(2047, 1), map[int][]int{0: nil}),
		"states, by a Tail":             sub(1, 1, nil, map[int][]int{0: times(2047, 1)}),
		"states, by an Out":             sub(1, 1, nil, map[int][]int{0: nil}, step{0, 0, 0, times(2047, 1)}),
		"states, by a word not reached": sub(1, 2, nil, map[int][]int{0: nil}, step{1, 0, 0, times(2046, 1)}),
		"states, by all words":          sub(2, 3, times(501, 1), map[int][]int{0: times(401, 2), 2: times(301, 3)}, step{0, 0, 1, times(201, 4)}, step{1, 1, 2, times(645, 5)}),
		"arcs":                          wide(200, arcs),
		"arcs, by Tails":                with(wide(200, arcs-2), func(s *api.Sub) { s.Final[0], s.Tail[0], s.Tail[199] = true, w(1), w(2) }),
		"arcs, by words":                with(wide(200, arcs-10), func(s *api.Sub) { s.Head, s.Out[3][0], s.Tail[199] = times(4, 1), times(4, 1), times(4, 1) }),
		"both":                          with(wide(1000, 7145), func(s *api.Sub) { s.Head, s.Tail[999] = times(1001, 1), times(48, 2) }),
		"very long":                     sub(1, 1, times(1<<20, 1), map[int][]int{0: nil}),
	} {
		if u := subseq.Of(s); !subseq.Valid(s) || !reflect.DeepEqual(u, api.FST{}) {
			t.Errorf("P10.5: %s, one more: %d states and %d arcs, want the zero value", what, len(u.Final), len(u.Arcs))
		}
	}
}

func TestDomain(t *testing.T) {
	r := rand.New(rand.NewSource(4))
	accepted := 0
	for range 3000 {
		s := randomSub(r, 1+r.Intn(3), 1+r.Intn(5), 3)
		d, code := fst.Domain(subseq.Of(s), s.Size)
		if code != api.OK {
			t.Fatalf("P10.10: %v: error %d", s, code)
		}
		for _, input := range wordsUpTo(5, s.Size) {
			_, ok := subseq.Run(s, input)
			if ok {
				accepted++
			}
			if automaton.Accepts(d, input) != ok {
				t.Fatalf("P10.10: %v: %v is accepted: %v", s, input, !ok)
			}
		}
	}
	if accepted < 50000 {
		t.Error("these words have outputs:", accepted)
	}
}

// delayed returns a subsequential transducer with the same outputs, each of which is one symbol late, if possible: a state knows the last symbol that is not written yet.
func delayed(s api.Sub) api.Sub {
	type late struct {
		state int
		rest  string
	}
	numbers := map[late]int{}
	var all []late
	// number returns the state that knows the last symbol of a word, and the symbols before it.
	number := func(p int, out string) (int, []int) {
		cut := max(len(out)-1, 0)
		x := late{p, out[cut:]}
		n, known := numbers[x]
		if !known {
			n = len(all)
			numbers[x] = n
			all = append(all, x)
		}
		return n, word(out[:cut])
	}
	d := api.Sub{Size: s.Size}
	_, d.Head = number(0, text(s.Head))
	for i := 0; i < len(all); i++ {
		p, rest := all[i].state, all[i].rest
		next, out := times(s.Size, -1), make([][]int, s.Size)
		for x, to := range s.Next[p] {
			if to >= 0 {
				next[x], out[x] = number(to, rest+text(s.Out[p][x]))
			}
		}
		var tail []int
		if s.Final[p] {
			tail = slices.Concat(word(rest), s.Tail[p])
		}
		d.Next, d.Out, d.Final, d.Tail = append(d.Next, next), append(d.Out, out), append(d.Final, s.Final[p]), append(d.Tail, tail)
	}
	return d
}

func TestSame(t *testing.T) {
	for what, x := range map[string]struct {
		a, b api.Sub
		want bool
	}{
		"the example":                   {example(), exampleMin(), true},
		"itself":                        {example(), example(), true},
		"no outputs":                    {blank(3, 1), row(3, 1, nil), false},
		"no outputs of both":            {blank(3, 1), sub(3, 2, w(1), nil, step{0, 1, 1, w(2)}), true},
		"another Size":                  {blank(3, 1), blank(2, 1), false},
		"another Size, equal otherwise": {row(2, 1, nil), row(3, 1, nil), false},
		"another Head":                  {sub(1, 1, w(1), map[int][]int{0: nil}), sub(1, 1, w(2), map[int][]int{0: nil}), false},
		"a longer Head":                 {sub(1, 1, w(1), map[int][]int{0: nil}), sub(1, 1, w(1, 1), map[int][]int{0: nil}), false},
		"a Tail as Head":                {sub(1, 1, w(1), map[int][]int{0: nil}), sub(1, 1, nil, map[int][]int{0: w(1)}), true},
		"another Tail":                  {sub(1, 2, nil, map[int][]int{0: nil, 1: w(1)}, step{0, 0, 1, nil}), sub(1, 2, nil, map[int][]int{0: nil, 1: w(2)}, step{0, 0, 1, nil}), false},
		"another Tail of a way on":      {sub(1, 2, nil, map[int][]int{0: w(1), 1: nil}, step{0, 0, 1, w(3)}), sub(1, 2, nil, map[int][]int{0: w(2), 1: nil}, step{0, 0, 1, w(3)}), false},
		"a longer Tail of a way on":     {sub(1, 2, nil, map[int][]int{0: w(1), 1: nil}, step{0, 0, 1, w(3)}), sub(1, 2, nil, map[int][]int{0: w(1, 1), 1: nil}, step{0, 0, 1, w(3)}), false},
		"another Out":                   {sub(1, 1, nil, map[int][]int{0: nil}, step{0, 0, 0, w(1)}), sub(1, 1, nil, map[int][]int{0: nil}, step{0, 0, 0, w(1, 1)}), false},
		"another Next":                  {sub(1, 2, nil, map[int][]int{0: nil}, step{0, 0, 1, nil}, step{1, 0, 0, nil}), sub(1, 2, nil, map[int][]int{0: nil}, step{0, 0, 1, nil}, step{1, 0, 1, nil}), false},
		"another Final":                 {sub(1, 2, nil, map[int][]int{0: nil}, step{0, 0, 1, nil}, step{1, 0, 0, nil}), sub(1, 2, nil, map[int][]int{1: nil}, step{0, 0, 1, nil}, step{1, 0, 0, nil}), false},
		"a step less":                   {sub(2, 1, nil, map[int][]int{0: nil}, step{0, 0, 0, nil}, step{0, 1, 0, nil}), sub(2, 1, nil, map[int][]int{0: nil}, step{0, 0, 0, nil}), false},
	} {
		if subseq.Same(x.a, x.b) != x.want || subseq.Same(x.b, x.a) != x.want {
			t.Errorf("P10.6: %s: %v", what, !x.want)
		}
	}
}

func TestRandomSame(t *testing.T) {
	r := rand.New(rand.NewSource(5))
	results := map[bool]int{}
	for range 20000 {
		a, b := smallSub(r), smallSub(r)
		if r.Intn(3) == 0 {
			b = delayed(a)
			if r.Intn(2) == 0 {
				p, x := r.Intn(len(b.Next)), r.Intn(b.Size)
				b.Next[p][x], b.Out[p][x] = r.Intn(len(b.Next)), w(0)
			}
		}
		if a.Size != b.Size {
			continue
		}
		want := true
		for _, input := range wordsUpTo(7, a.Size) {
			x, ok := outputBy(a, input)
			y, exists := outputBy(b, input)
			want = want && ok == exists && slices.Equal(x, y)
		}
		results[want]++
		if subseq.Same(a, b) != want || subseq.Same(b, a) != want {
			t.Fatalf("P10.6: Same(%v, %v) = %v", a, b, !want)
		}
		// P10.8: Min tells the same.
		if equal(subseq.Min(a), subseq.Min(b)) != want {
			t.Fatalf("P10.8: Min of %v and %v", a, b)
		}
	}
	if results[true] < 2000 || results[false] < 2000 {
		t.Error("these are the same and not:", results)
	}
}
