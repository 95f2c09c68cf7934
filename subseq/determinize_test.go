package subseq_test

import (
	"math/rand"
	"slices"
	"testing"

	"wordbook/api"
	"wordbook/automaton"
	"wordbook/fst"
	"wordbook/subseq"
)

func TestDeterminize(t *testing.T) {
	nil1 := map[int][]int{0: nil}
	for what, x := range map[string]struct {
		u    api.FST
		size int
		want api.Sub
	}{
		"no words":                     {machine(1, nil), 2, blank(2, 1)},
		"no words, of the size 64":     {machine(2, nil, arc(0, 1, 1, 1)), 64, blank(64, 1)},
		"the empty word":               {machine(1, []int{0}), 1, sub(1, 1, nil, nil1)},
		"the empty word, with outputs": {machine(3, []int{2}, arc(0, eps, 1, 1), arc(1, eps, 2, 2)), 1, sub(1, 1, w(1, 2), nil1)},
		"the example":                  {subseq.Of(example()), 2, exampleMin()},
		// Symbols from the size on do not count.
		"a smaller size":         {subseq.Of(example()), 1, sub(1, 2, w(3, 5), map[int][]int{1: nil}, step{0, 0, 1, nil}, step{1, 0, 1, w(5)})},
		"a larger size":          {machine(1, []int{0}, arc(0, 0, 1, 0)), 3, sub(3, 1, nil, nil1, step{0, 0, 0, w(1)})},
		"no word is left":        {machine(2, []int{1}, arc(0, 2, 1, 1)), 2, blank(2, 1)},
		"not a way is left":      {machine(3, []int{0, 2}, arc(0, 0, 1, 1), arc(1, 2, 2, 2), arc(0, 1, 1, 0)), 2, sub(2, 1, nil, nil1, step{0, 1, 0, w(1)})},
		"the symbol 63":          {machine(1, []int{0}, arc(0, 63, 63, 0)), 64, sub(64, 1, nil, nil1, step{0, 63, 0, w(63)})},
		"outputs from size on":   {machine(1, []int{0}, arc(0, 0, 63, 0)), 1, sub(1, 1, nil, nil1, step{0, 0, 0, w(63)})},
		"two outputs, but later": {machine(1, []int{0}, arc(0, 0, 1, 0), arc(0, 1, 1, 0), arc(0, 1, 2, 0)), 1, sub(1, 1, nil, nil1, step{0, 0, 0, w(1)})},
		// The last symbol decides what the ones before it are written as.
		"by the next symbol": {fst.Or(fst.Word(w(0, 0), w(5, 5)), fst.Word(w(0, 1), w(6, 6))), 2,
			sub(2, 3, nil, map[int][]int{2: nil}, step{0, 0, 1, nil}, step{1, 0, 2, w(5, 5)}, step{1, 1, 2, w(6, 6)})},
		"with a common beginning": {fst.Or(fst.Word(w(0, 0), w(4, 5, 5)), fst.Word(w(0, 1), w(4, 5, 6))), 2,
			sub(2, 3, w(4, 5), map[int][]int{2: nil}, step{0, 0, 1, nil}, step{1, 0, 2, w(5)}, step{1, 1, 2, w(6)})},
		"at the end": {fst.Or(fst.Word(w(0), w(4, 5)), fst.Word(w(0, 1), w(4, 6))), 2,
			sub(2, 3, w(4), map[int][]int{1: w(5), 2: nil}, step{0, 0, 1, nil}, step{1, 1, 2, w(6)})},
		"ways that write without reading": {machine(5, []int{4}, arc(0, eps, 1, 1), arc(1, eps, 2, 2), arc(2, 0, eps, 3), arc(3, eps, 3, 2), arc(3, eps, 3, 4)), 1,
			sub(1, 2, w(1, 2, 3), map[int][]int{1: nil}, step{0, 0, 1, nil}, step{1, 0, 1, w(3)})},
		"a circle that does nothing": {machine(2, []int{1}, arc(0, eps, eps, 0), arc(0, 0, 1, 1), arc(1, eps, eps, 0)), 1,
			sub(1, 2, w(1), map[int][]int{1: nil}, step{0, 0, 1, nil}, step{1, 0, 1, w(1)})},
	} {
		got := determinized(t, "P10.3: "+what, x.u, x.size)
		is(t, "P10.3: "+what, got, x.want)
	}
}

func TestDeterminizeErrors(t *testing.T) {
	for _, n := range append(extremes, 0, -1, 65) {
		fails(t, "P10.3: size", subseq.Of(example()), n, api.ErrArg)
		// The size counts before what is wrong with outputs.
		fails(t, "P10.3: size", machine(1, []int{0}, arc(0, 0, 1, 0), arc(0, 0, 2, 0)), n, api.ErrArg)
	}
	for what, u := range relations() {
		if what != "by the greatest symbol" {
			fails(t, "P10.3: "+what, u, 2, api.ErrState)
		}
		fails(t, "P10.3: "+what, u, 64, api.ErrState)
	}
	two := machine(1, []int{0}, arc(0, 0, 1, 0), arc(0, 5, 1, 0), arc(0, 5, 2, 0))
	for size := 1; size <= 5; size++ {
		is(t, "P10.3: two outputs by the symbol 5 alone", determinized(t, "P10.3", two, size), sub(size, 1, nil, map[int][]int{0: nil}, step{0, 0, 0, w(1)}))
	}
	fails(t, "P10.3: two outputs by the symbol 5", two, 6, api.ErrState)
	// Two outputs count before too many situations.
	fails(t, "P10.3: the last symbol first", lastFirst(), 2, api.ErrLimit)
	fails(t, "P10.3: the last symbol first, and two outputs", fst.Or(lastFirst(), machine(2, []int{1}, arc(0, 0, 5, 1))), 2, api.ErrState)
	for _, n := range []int{1, 2, 100} {
		fails(t, "P10.3: an end that decides", endless(n), 3, api.ErrLimit)
		fails(t, "P10.3: an end that decides, and two outputs", fst.Or(endless(n), machine(2, []int{1}, arc(0, 2, 5, 1))), 3, api.ErrState)
		// Without the other end there is nothing to be decided.
		determinized(t, "P10.3: one end", endless(n), 2)
	}
}

// endless reads any number of 0, and then 1 or 2. Only by 2 it writes n symbols for each 0.
func endless(n int) api.FST {
	u := machine(n+3, []int{n + 2}, arc(0, eps, eps, 1), arc(0, eps, eps, 2), arc(1, 0, eps, 1), arc(1, 1, eps, n+2), arc(2, 2, eps, n+2))
	u.Arcs = append(u.Arcs, way(2, 0, times(n, 7), 2, 3)...)
	return u
}

// layers are some layers of situations, one for each symbol, which differ in a state that only leads on to the next layer without reading; the last layer has as many symbols as given.
func layers(n, last int) api.FST {
	u := machine(n+1, []int{n})
	for i := range n {
		symbols := 64
		if i == n-1 {
			symbols = last
		}
		for x := range symbols {
			u.Final = append(u.Final, false)
			own := len(u.Final) - 1
			u.Arcs = append(u.Arcs, arc(i, x, 1, own), arc(own, eps, eps, i+1))
		}
	}
	return u
}

// ring is a transducer of some final states, each of which leads to the next one.
func ring(states int) api.FST {
	u := machine(states, nil)
	for p := range states {
		u.Final[p] = true
		u.Arcs = append(u.Arcs, arc(p, 0, 1, (p+1)%states))
	}
	return u
}

// undecided reads up to n of the symbols 0 and 1. It writes them, if 2 stands behind them, and nothing, if 3 does. By the symbol 4 the empty word ends in a state of its own.
func undecided(n int) api.FST {
	end := 2*n + 3
	u := machine(end+2, []int{end, end + 1}, arc(0, eps, eps, 1), arc(0, eps, eps, n+2), arc(0, 4, eps, end+1))
	for i := range n + 1 {
		p, q := 1+i, n+2+i
		u.Arcs = append(u.Arcs, arc(p, 2, eps, end), arc(q, 3, eps, end))
		for x := range 2 {
			if i < n {
				u.Arcs = append(u.Arcs, arc(p, x, x, p+1), arc(q, x, eps, q+1))
			}
		}
	}
	return u
}

// crossed is a row of pairs of states: by 0 each of both leads to its own next one, and by 1 to that of the other one.
func crossed(pairs int) api.FST {
	u := machine(2*pairs, []int{2*pairs - 1}, arc(0, eps, eps, 1))
	for p := 0; p < 2*pairs-2; p += 2 {
		u.Arcs = append(u.Arcs, arc(p, 0, 1, p+2), arc(p+1, 0, 1, p+3), arc(p, 1, 1, p+3), arc(p+1, 1, 1, p+2))
	}
	return u
}

// withDead adds as many situations as given that lead nowhere.
func withDead(u api.FST, dead int) api.FST {
	from := 0
	for range dead {
		u.Final = append(u.Final, false)
		u.Arcs = append(u.Arcs, arc(from, 1, 1, len(u.Final)-1))
		from = len(u.Final) - 1
	}
	return u
}

func TestDeterminizeLimit(t *testing.T) {
	for what, x := range map[string]struct {
		u                        api.FST
		size, situations, states int
	}{
		"a ring":                         {ring(512), 1, 512, 1},
		"one more in a ring":             {ring(513), 1, 513, 0},
		"a row":                          {fst.Word(times(511, 0), nil), 1, 512, 512},
		"one more in a row":              {fst.Word(times(512, 0), nil), 1, 513, 0},
		"layers":                         {layers(8, 63), 64, 512, 9},
		"one more in layers":             {layers(8, 64), 64, 513, 0},
		"less in layers":                 {layers(8, 64), 63, 505, 9},
		"states in another order":        {crossed(512), 2, 512, 512},
		"one more in another order":      {crossed(513), 2, 513, 0},
		"rests":                          {undecided(8), 4, 512, 512},
		"one more than rests":            {undecided(8), 5, 513, 0},
		"a ring, and what leads nowhere": {withDead(ring(512), 600), 2, 512, 1},
	} {
		s, n := situationsBy(x.u, x.size, 512)
		if n != x.situations {
			t.Fatalf("%s: %d situations by the reference", what, n)
		}
		if n > 512 {
			fails(t, "P10.3: "+what, x.u, x.size, api.ErrLimit)
			continue
		}
		got, code := subseq.Determinize(x.u, x.size)
		if code != api.OK || len(got.Next) != x.states {
			t.Errorf("P10.3: %s: error %d and %d states, want %d", what, code, len(got.Next), x.states)
		}
		is(t, "P10.3: "+what, got, subseq.Min(s))
	}
}

// checkDeterminize compares Determinize with the reference.
func checkDeterminize(t *testing.T, u api.FST, size int) api.Errno {
	t.Helper()
	if !functionBy(restrict(u, size)) {
		fails(t, "P10.3: random", u, size, api.ErrState)
		return api.ErrState
	}
	want, n := situationsBy(u, size, 512)
	if n > 512 {
		fails(t, "P10.3: random", u, size, api.ErrLimit)
		return api.ErrLimit
	}
	got := determinized(t, "P10.3: random", u, size)
	sameOutputs(t, "P10.3: random", got, want, 8-size)
	for _, input := range wordsUpTo(5-(size+1)/2, size) {
		l, code := fst.Apply(u, input, 1)
		out, ok := subseq.Run(got, input)
		if code != api.OK || ok != (len(l) == 1) || ok && !slices.Equal(out, l[0]) {
			t.Fatalf("P10.7: %v for %v: %v, want %v", u, input, out, l)
		}
	}
	// Of leads back.
	if back := subseq.Of(got); fst.Valid(back) {
		is(t, "P10.8: of Of", determinized(t, "P10.8: of Of", back, size), got)
	}
	return api.OK
}

func TestRandomDeterminize(t *testing.T) {
	r := rand.New(rand.NewSource(21))
	codes := map[api.Errno]int{}
	for range 4000 {
		u := random(r, 1+r.Intn(3), 1+r.Intn(5), 8)
		codes[checkDeterminize(t, u, 1+r.Intn(3))]++
		if t.Failed() {
			t.Fatalf("by %v", u)
		}
	}
	for range 2000 {
		a, size := smallSub(r), 1+r.Intn(2)
		u, v := subseq.Of(a), subseq.Of(delayed(a))
		switch r.Intn(6) {
		case 0:
			u = fst.Or(u, v)
		default:
			// The last symbol decides between two outputs.
			v = subseq.Of(randomSub(r, a.Size, 1+r.Intn(3), 2))
			u, size = fst.Or(fst.Then(u, fst.Word(w(2), w(0))), fst.Then(v, fst.Word(w(3), nil))), 4
		case 2:
			u = fst.Then(u, v)
		case 3:
			u = must(fst.Compose(u, v))
		}
		if u = fst.Trim(u); len(u.Final) <= 16 {
			codes[checkDeterminize(t, u, size)]++
		}
		if t.Failed() {
			t.Fatalf("by %v", u)
		}
	}
	if codes[api.OK] < 1500 || codes[api.ErrState] < 500 || codes[api.ErrLimit] < 40 {
		t.Error("these have errors:", codes)
	}
}

// TestGreatDeterminize looks at transducers with many states and long outputs.
func TestGreatDeterminize(t *testing.T) {
	// All states are in each situation, with rests of all lengths.
	fails(t, "P10.3: long rests", endless(400), 3, api.ErrLimit)
	u := machine(1025, []int{1024}, append(way(0, 0, times(1024, 5), 1024, 1), arc(1024, eps, eps, 0))...)
	is(t, "P10.3: long outputs", determinized(t, "long outputs", u, 1), sub(1, 2, times(1024, 5), map[int][]int{1: nil}, step{0, 0, 1, nil}, step{1, 0, 1, times(1024, 5)}))
	// A word of many symbols is written at its end.
	const n = 500
	u = machine(2*n+4, []int{2*n + 3}, arc(0, 0, eps, 1), arc(0, 0, eps, n+2))
	for i := range n {
		u.Arcs = append(u.Arcs, arc(1+i, 0, i%64, 2+i), arc(n+2+i, 0, eps, n+3+i))
	}
	u.Arcs = append(u.Arcs, arc(n+1, 1, eps, 2*n+3), arc(2*n+2, 2, eps, 2*n+3))
	got := determinized(t, "P10.3: late", u, 3)
	var long []int
	for i := range n {
		long = append(long, i%64)
	}
	runs(t, "P10.3: late", got, append(times(n+1, 0), 1), long)
	runs(t, "P10.3: late", got, append(times(n+1, 0), 2), nil)
	if len(got.Next) != n+3 {
		t.Errorf("P10.3: late: %d states", len(got.Next))
	}
	d, code := automaton.Of(api.Regex{Kind: api.RxStar, Kids: []api.Regex{{Kind: api.RxSet, Symbols: w(0, 1)}}}, 2)
	if code != api.OK {
		t.Fatal(code)
	}
	is(t, "P10.3: of an automaton", determinized(t, "of an automaton", fst.Of(d), 2), sub(2, 1, nil, map[int][]int{0: nil}, step{0, 0, 0, w(0)}, step{0, 1, 0, w(1)}))
}
