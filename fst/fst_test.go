package fst_test

import (
	"maps"
	"math/rand"
	"slices"
	"testing"

	"wordbook/api"
	"wordbook/automaton"
	"wordbook/fst"
)

func TestValid(t *testing.T) {
	for _, u := range []api.FST{nothing(), example(), machine(1, []int{0}), chain(2, eps, eps), chain(2, 63, 63), chain(2, 0, eps), chain(2, 62, 0), chain(api.MaxStates, 1, 2), ring(api.MaxStates, 1, 2), withArcs(nothing(), api.MaxArcs), withArcs(ring(api.MaxStates, 1, 2), api.MaxArcs-api.MaxStates), machine(3, nil, arc(2, 1, 1, 2))} {
		if !fst.Valid(u) {
			t.Errorf("P9.1: not valid: %v", short(u))
		}
	}
	for _, u := range notValid() {
		rejected(t, u)
	}
}

// rejected checks that a transducer is treated as one that is not valid, everywhere.
func rejected(t *testing.T, u api.FST) {
	t.Helper()
	if fst.Valid(u) {
		t.Errorf("P9.1: Valid(%v)", short(u))
	}
	for _, other := range []api.FST{nothing(), example(), u} {
		zero(t, "P9.3: Or", fst.Or(u, other))
		zero(t, "P9.3: Or", fst.Or(other, u))
		zero(t, "P9.3: Then", fst.Then(u, other))
		zero(t, "P9.3: Then", fst.Then(other, u))
		c, code := fst.Compose(u, other)
		fails(t, "P9.4: Compose", c, code, api.ErrArg)
		c, code = fst.Compose(other, u)
		fails(t, "P9.4: Compose", c, code, api.ErrArg)
	}
	zero(t, "P9.3: Star", fst.Star(u))
	zero(t, "P9.5: Invert", fst.Invert(u))
	zero(t, "P9.6: Trim", fst.Trim(u))
	for _, w := range [][]int{nil, {1}, {-1}, {64}} {
		if l, code := fst.Apply(u, w, 1); code != api.ErrArg || l != nil {
			t.Errorf("P9.7: Apply(%v, %v): %v, error %d", short(u), w, l, code)
		}
	}
	for _, size := range []int{1, 64, 0} {
		if d, code := fst.Domain(u, size); code != api.ErrArg || !equalDFA(d, api.DFA{}) {
			t.Errorf("P9.8: Domain(%v, %d): error %d", short(u), size, code)
		}
	}
}

// TestRandomValid changes one number of a transducer, so that it may be valid or not.
func TestRandomValid(t *testing.T) {
	r := rand.New(rand.NewSource(1))
	results := map[bool]int{}
	for range 20000 {
		u := random(r, 64, 1+r.Intn(4), 6)
		valid := true
		if len(u.Arcs) > 0 {
			a := &u.Arcs[r.Intn(len(u.Arcs))]
			state, symbol := r.Intn(len(u.Final)+3)-1, []int{-2, -1, 0, 1, 62, 63, 64, 65}[r.Intn(8)]
			switch r.Intn(4) {
			case 0:
				a.From, valid = state, state >= 0 && state < len(u.Final)
			case 1:
				a.To, valid = state, state >= 0 && state < len(u.Final)
			case 2:
				a.In, valid = symbol, symbol >= -1 && symbol <= 63
			case 3:
				a.Out, valid = symbol, symbol >= -1 && symbol <= 63
			}
		}
		results[valid]++
		if fst.Valid(u) != valid {
			t.Fatalf("P9.1: Valid(%v) = %v", u, !valid)
		}
	}
	if results[true] < 3000 || results[false] < 3000 {
		t.Error("these are valid and not:", results)
	}
}

// even is the automaton of the words over 0 and 1 with an even number of 1.
func even() api.DFA {
	return api.DFA{Size: 2, Next: [][]int{{0, 1}, {1, 0}}, Final: []bool{true, false}}
}

func TestOf(t *testing.T) {
	is(t, "P9.2: Of no word", fst.Trim(fst.Of(api.DFA{Size: 3, Next: [][]int{{0, 0, 0}}, Final: []bool{false}})), nothing())
	relates(t, "P9.2: Of", fst.Of(even()), relation{{"", ""}: true, {"\x00", "\x00"}: true, {"\x00\x00", "\x00\x00"}: true, {"\x01\x01", "\x01\x01"}: true}, 2, 2)
	for _, d := range []api.DFA{{}, {Size: 1}, {Size: 1, Next: [][]int{{1}}, Final: []bool{true}}, {Size: 1, Next: [][]int{{0}}}, {Size: 65, Next: [][]int{make([]int, 65)}, Final: []bool{true}}, {Size: 2, Next: [][]int{{0, -1}}, Final: []bool{true}}, {Next: [][]int{{}}, Final: []bool{true}}} {
		zero(t, "P9.2: Of an automaton that is not valid", fst.Of(d))
	}
	r := rand.New(rand.NewSource(2))
	for range 3000 {
		d := randomDFA(r, 1+r.Intn(3), 1+r.Intn(6))
		u := fst.Of(d)
		fits(t, "P9.2: Of", u, len(d.Next), usefulPairs(d))
		want := relation{}
		for _, w := range wordsUpTo(4, d.Size) {
			if automaton.Accepts(d, w) {
				want[couple{text(w), text(w)}] = true
			}
		}
		relates(t, "P9.2: Of", u, want, 4, 4)
	}
}

// usefulPairs counts the pairs of a reached state and a symbol that leads on to a final state.
func usefulPairs(d api.DFA) int {
	all := machine(len(d.Next), nil)
	all.Final = d.Final
	for s, row := range d.Next {
		for x, to := range row {
			all.Arcs = append(all.Arcs, arc(s, x, x, to))
		}
	}
	return len(trimBy(all).Arcs)
}

// wide is an automaton in which 128 states lead to each other by all 64 symbols. The last one leads by the symbol 1 to another state, from which as many symbols as given lead back, or to the start, if there are none. There is one more state from which no final state is reached, and one that is not reached.
func wide(symbols int) api.DFA {
	const extra, dead = 128, 129
	d := api.DFA{Size: 64, Final: make([]bool, 131)}
	d.Final[0] = true
	for s := range d.Final {
		row := make([]int, 64)
		for x := range row {
			switch {
			case s == dead || s == extra && x >= symbols:
				row[x] = dead
			case s < 127 && x == 0:
				row[x] = s + 1
			case s == 127 && x == 1 && symbols > 0:
				row[x] = extra
			}
		}
		d.Next = append(d.Next, row)
	}
	return d
}

func TestOfLimit(t *testing.T) {
	for _, symbols := range []int{0, 1, 2, 64} {
		d := wide(symbols)
		if pairs := usefulPairs(d); pairs != api.MaxArcs+symbols {
			t.Fatal("there are", pairs, "pairs")
		}
		u := fst.Of(d)
		if symbols > 0 {
			zero(t, "P9.2: Of with too many pairs", u)
			continue
		}
		fits(t, "P9.2: Of", u, 131, api.MaxArcs)
		outputs(t, "P9.2: Of", u, []int{0, 0, 9, 5}, []int{0, 0, 9, 5})
		if back, code := fst.Domain(u, 64); code != api.OK || !equalDFA(back, automaton.Min(d)) {
			t.Error("P9.2: Of with 8192 pairs is another automaton, error", code)
		}
	}
	// Many states, most pairs of which lead nowhere.
	long := api.DFA{Size: 64, Final: make([]bool, api.MaxStates)}
	long.Final[api.MaxStates-2] = true
	for s := range api.MaxStates {
		row := slices.Repeat([]int{api.MaxStates - 1}, 64)
		for x := range 4 {
			row[x*s%64] = min(s+1, api.MaxStates-1)
		}
		long.Next = append(long.Next, row)
	}
	fits(t, "P9.2: Of", fst.Of(long), api.MaxStates, api.MaxArcs)
	outputs(t, "P9.2: Of", fst.Of(long), []int{0})
}

func TestWord(t *testing.T) {
	for _, x := range []struct{ x, y []int }{
		{nil, nil}, {[]int{}, []int{0}}, {[]int{0}, nil}, {[]int{0}, []int{0}}, {[]int{0, 1}, []int{63}}, {[]int{62}, []int{1, 2, 1}}, {[]int{1, 1}, []int{1, 1}}, {[]int{5, 0, 5}, []int{0, 5}},
	} {
		u := fst.Word(x.x, x.y)
		n := max(len(x.x), len(x.y))
		fits(t, "P9.2: Word", u, n+1, n)
		relates(t, "P9.2: Word", u, relation{{text(x.x), text(x.y)}: true}, 5, 5)
	}
	long := make([]int, api.MaxText)
	for i := range long {
		long[i] = i % 64
	}
	tooLong := append(slices.Clone(long), 0)
	for _, x := range []struct{ x, y []int }{{long, long}, {long, nil}, {nil, long}, {long[:1000], long}, {long, long[1:2]}} {
		u := fst.Word(x.x, x.y)
		fits(t, "P9.2: Word", u, api.MaxText+1, api.MaxText)
		outputs(t, "P9.2: Word", u, x.x, x.y)
		if len(x.x) > 0 {
			outputs(t, "P9.2: Word", u, x.x[1:])
		}
	}
	for _, x := range []struct{ x, y []int }{{tooLong, nil}, {nil, tooLong}, {tooLong, tooLong}, {tooLong, long}, {long, tooLong}} {
		zero(t, "P9.2: Word of too many symbols", fst.Word(x.x, x.y))
	}
	for _, n := range append(extremes, -1, 64, 65) {
		for _, w := range [][]int{{n}, {0, n}, {n, 0}, {1, n, 1}} {
			zero(t, "P9.2: Word", fst.Word(w, nil))
			zero(t, "P9.2: Word", fst.Word([]int{1}, w))
			zero(t, "P9.2: Word", fst.Word(w, w))
		}
	}
}

func TestOrThenStar(t *testing.T) {
	r := rand.New(rand.NewSource(3))
	for range 4000 {
		u, v := small(r), small(r)
		a, b := related(u, 3, 3), related(v, 3, 3)
		both := maps.Clone(a)
		maps.Copy(both, b)
		relates(t, "P9.3: Or", fst.Or(u, v), both, 3, 3)
		relates(t, "P9.3: Then", fst.Then(u, v), joined(a, b, 3, 3), 3, 3)
		relates(t, "P9.3: Star", fst.Star(u), repeated(a, 3, 3), 3, 3)
		fitsBounds(t, u, v)
	}
	// What leads back to the start of a transducer does not end there.
	back := machine(2, []int{1}, arc(0, 0, 0, 0), arc(0, 1, 1, 1), arc(1, 0, 0, 0))
	outputs(t, "P9.3: Star", fst.Star(back), []int{0})
	outputs(t, "P9.3: Star", fst.Star(back), nil, nil)
	outputs(t, "P9.3: Star", fst.Star(back), []int{0, 1}, []int{0, 1})
	outputs(t, "P9.3: Or", fst.Or(back, fst.Word([]int{1, 1}, nil)), []int{0})
	outputs(t, "P9.3: Then", fst.Then(fst.Word([]int{1, 1}, nil), back), []int{1, 1, 0})
	outputs(t, "P9.3: Then", fst.Then(back, fst.Word([]int{2}, []int{3})), []int{1, 2, 2})
	// No pair, and the pair of empty words.
	outputs(t, "P9.3: Star", fst.Star(nothing()), nil, nil)
	relates(t, "P9.3: Star", fst.Star(nothing()), relation{{}: true}, 3, 3)
	relates(t, "P9.3: Star", fst.Star(fst.Word(nil, nil)), relation{{}: true}, 3, 3)
	relates(t, "P9.3: Then", fst.Then(nothing(), example()), relation{}, 3, 3)
	relates(t, "P9.3: Then", fst.Then(example(), nothing()), relation{}, 3, 3)
	relates(t, "P9.3: Or", fst.Or(nothing(), nothing()), relation{}, 3, 3)
}

// fitsBounds checks that the results of Or, Then and Star are not larger than promised.
func fitsBounds(t *testing.T, u, v api.FST) {
	t.Helper()
	ends := func(u api.FST) int {
		n := 0
		for _, final := range u.Final {
			if final {
				n++
			}
		}
		return n
	}
	fits(t, "P9.3: Or", fst.Or(u, v), len(u.Final)+len(v.Final)+1, len(u.Arcs)+len(v.Arcs)+2)
	fits(t, "P9.3: Then", fst.Then(u, v), len(u.Final)+len(v.Final), len(u.Arcs)+len(v.Arcs)+ends(u))
	fits(t, "P9.3: Star", fst.Star(u), len(u.Final)+1, len(u.Arcs)+1+ends(u))
}

func TestOrThenStarLimit(t *testing.T) {
	full := func(states, arcs int) api.FST {
		u := machine(states, nil)
		for s := range states {
			u.Final[s] = true
		}
		return withArcs(u, arcs)
	}
	for _, x := range []struct {
		states1, arcs1, states2, arcs2 int
		ok                             bool
	}{
		{1000, 3000, 1000, 3000, true}, {1999, 6000, 1, 0, true}, {1, 0, 1999, 6000, true}, {1, 6000, 1, 0, true}, {1, 0, 1, 6000, true},
		{1001, 0, 1000, 0, false}, {2000, 0, 1, 0, false}, {1, 0, 2000, 0, false}, {2048, 0, 1, 0, false}, {2048, 8192, 2048, 8192, false},
		{1, 6001, 1, 0, false}, {1, 0, 1, 6001, false}, {1, 3000, 1, 3001, false}, {5, 3001, 5, 3000, false}, {1, 8192, 1, 0, false},
	} {
		u, v := full(x.states1, x.arcs1), full(x.states2, x.arcs2)
		if !x.ok {
			zero(t, "P9.3: Or of too large ones", fst.Or(u, v))
			zero(t, "P9.3: Then of too large ones", fst.Then(u, v))
			continue
		}
		fitsBounds(t, u, v)
	}
	for _, x := range []struct {
		states, arcs int
		ok           bool
	}{{2000, 6000, true}, {2000, 0, true}, {1, 6000, true}, {2001, 0, false}, {1, 6001, false}, {2001, 6001, false}, {2048, 8192, false}} {
		u := full(x.states, x.arcs)
		if !x.ok {
			zero(t, "P9.3: Star of a too large one", fst.Star(u))
			continue
		}
		fits(t, "P9.3: Star", fst.Star(u), x.states+1, x.arcs+1+x.states)
	}
	long := chain(1000, 1, 2)
	ones, twos := slices.Repeat([]int{1}, 1024), slices.Repeat([]int{2}, 2048)
	outputs(t, "P9.3: Or", fst.Or(long, long), ones[:999], twos[:999])
	short := fst.Then(chain(400, 1, 2), chain(1600, eps, 2))
	outputs(t, "P9.3: Then", short, ones[:399], twos[:399+1599])
	outputs(t, "P9.3: Star", fst.Star(short), ones[:399], twos[:1998])
	outputs(t, "P9.3: Star", fst.Star(chain(2000, eps, eps)), nil, nil)
}

func TestInvert(t *testing.T) {
	is(t, "P9.5: Invert", fst.Trim(fst.Invert(chain(5, 1, 2))), chain(5, 2, 1))
	r := rand.New(rand.NewSource(4))
	for range 4000 {
		u := small(r)
		v := fst.Invert(u)
		fits(t, "P9.5: Invert", v, len(u.Final), len(u.Arcs))
		relates(t, "P9.5: Invert", v, inverse(related(u, 3, 3)), 3, 3)
		for _, w := range wordsUpTo(2, 2) {
			l, code := fst.Apply(u, w, api.MaxOut)
			for _, y := range l {
				back, code := fst.Apply(v, y, api.MaxOut)
				if code == api.OK && !contains(back, w) {
					t.Fatalf("P9.10: %v is an output of %v, but not the other way: %v", y, w, u)
				}
			}
			if code != api.OK {
				continue
			}
			for _, y := range wordsUpTo(2, 2) {
				if back, code := fst.Apply(v, y, api.MaxOut); code == api.OK && contains(back, w) != contains(l, y) {
					t.Fatalf("P9.10: %v and %v by %v", w, y, u)
				}
			}
		}
	}
	great := withArcs(chain(api.MaxStates, 1, 2), api.MaxArcs-api.MaxStates+1)
	fits(t, "P9.5: Invert", fst.Invert(great), api.MaxStates, api.MaxArcs)
}

func contains(l [][]int, w []int) bool {
	return slices.ContainsFunc(l, func(v []int) bool { return slices.Equal(v, w) })
}

func TestTrim(t *testing.T) {
	for _, x := range []struct{ u, want api.FST }{
		{nothing(), nothing()}, {example(), example()}, {machine(9, nil, arc(0, 1, 1, 3)), nothing()}, {machine(9, []int{4}, arc(3, 1, 1, 4), arc(0, 1, 1, 0)), nothing()}, {machine(3, []int{0}), machine(1, []int{0})},
		// The states and arcs keep their order.
		{machine(5, []int{2}, arc(4, 1, 2, 2), arc(0, 3, 4, 4), arc(0, 9, 9, 3), arc(1, 9, 9, 2), arc(2, eps, 5, 0)), machine(3, []int{1}, arc(2, 1, 2, 1), arc(0, 3, 4, 2), arc(1, eps, 5, 0))},
		// Arcs of the same states are kept even if they are equal; those to a state that is left out, and from it, are not.
		{machine(3, []int{1}, arc(1, 1, 1, 1), arc(0, 2, 2, 1), arc(0, 1, 1, 1), arc(0, 2, 2, 1), arc(1, 1, 1, 2), arc(2, 1, 1, 2)), machine(2, []int{1}, arc(1, 1, 1, 1), arc(0, 2, 2, 1), arc(0, 1, 1, 1), arc(0, 2, 2, 1))},
		{machine(4, []int{3}, arc(0, 1, 1, 3), arc(1, 1, 1, 3), arc(1, 1, 1, 0), arc(2, 1, 1, 1)), machine(2, []int{1}, arc(0, 1, 1, 1))},
	} {
		is(t, "P9.6: Trim", fst.Trim(x.u), x.want)
	}
	great := withArcs(ring(api.MaxStates, 1, 2), api.MaxArcs-api.MaxStates)
	is(t, "P9.6: Trim", fst.Trim(great), great)
	is(t, "P9.6: Trim", fst.Trim(machine(api.MaxStates, []int{api.MaxStates - 1}, great.Arcs[:1]...)), nothing())
	r := rand.New(rand.NewSource(5))
	fewer, empty := 0, 0
	for range 6000 {
		u := random(r, 3, 1+r.Intn(8), 12)
		got := fst.Trim(u)
		if want := trimBy(u); !equal(got, want) {
			t.Fatalf("P9.6: Trim(%v) = %v, want %v", u, got, want)
		}
		if !equal(fst.Trim(got), got) {
			t.Fatalf("P9.12: Trim(%v) = %v", got, fst.Trim(got))
		}
		if len(got.Final) < len(u.Final) {
			fewer++
		}
		if equal(got, nothing()) {
			empty++
		}
	}
	if fewer < 1000 || empty < 100 || empty > 4000 {
		t.Error("these have fewer states, and no accepting path:", fewer, empty)
	}
	for range 2000 {
		u := small(r)
		relates(t, "P9.12: Trim", fst.Trim(u), related(u, 4, 4), 4, 4)
	}
}

// TestMemory checks that no call changes an argument or its spare capacity, and that results are new memory.
func TestMemory(t *testing.T) {
	r := rand.New(rand.NewSource(6))
	for range 1000 {
		u, v := roomy(small(r)), roomy(small(r))
		beforeU, beforeV := whole(u), whole(v)
		d := even()
		w := append(make([]int, 0, 4), 0, 1)
		for _, call := range []func() api.FST{
			func() api.FST { return fst.Of(d) },
			func() api.FST { return fst.Word(w, w[:1]) },
			func() api.FST { return fst.Or(u, v) },
			func() api.FST { return fst.Then(u, v) },
			func() api.FST { return fst.Star(u) },
			func() api.FST { return fst.Invert(u) },
			func() api.FST { return fst.Trim(u) },
			func() api.FST { x, _ := fst.Compose(u, v); return x },
		} {
			x := call()
			c := copyOf(x)
			for i := range x.Final[:cap(x.Final)] {
				x.Final[:cap(x.Final)][i] = true
			}
			for i := range x.Arcs[:cap(x.Arcs)] {
				x.Arcs[:cap(x.Arcs)][i] = arc(9, 9, 9, 9)
			}
			if again := call(); !equal(again, c) {
				t.Fatalf("R5: a second call returns %v, the first one %v", again, c)
			}
		}
		l, _ := fst.Apply(u, w, api.MaxOut)
		for i, y := range l { // the outputs share no memory with each other
			for j := range y[:cap(y)] {
				y[:cap(y)][j] = -2 - i
			}
		}
		for i, y := range l {
			if slices.ContainsFunc(y, func(n int) bool { return n != -2-i }) {
				t.Fatal("R4: outputs share memory")
			}
		}
		fst.Domain(u, 2)
		if !slices.Equal(w[:4], []int{0, 1, 0, 0}) || !equalDFA(d, even()) || !equal(whole(u), beforeU) || !equal(whole(v), beforeV) {
			t.Fatal("R4: an argument was changed")
		}
	}
}

// roomy is a copy of a transducer whose lists have spare capacity.
func roomy(t api.FST) api.FST {
	return api.FST{Final: append(make([]bool, 0, len(t.Final)+3), t.Final...), Arcs: append(make([]api.Arc, 0, len(t.Arcs)+3), t.Arcs...)}
}

// whole is a copy of a transducer with its spare capacity.
func whole(t api.FST) api.FST {
	return api.FST{Final: slices.Clone(t.Final[:cap(t.Final)]), Arcs: slices.Clone(t.Arcs[:cap(t.Arcs)])}
}
