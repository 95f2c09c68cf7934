package subseq_test

import (
	"fmt"
	"math"
	"math/rand"
	"reflect"
	"slices"
	"testing"

	"wordbook/api"
	"wordbook/fst"
	"wordbook/subseq"
)

// extremes are integers that are neither states nor symbols nor sizes; -1 is none of them, as it can stand for no step.
var extremes = []int{math.MinInt, math.MinInt + 1, math.MinInt32, -1 << 32, -64, -2, 1 << 16, 1<<32 - 1, 1 << 32, 1<<32 + 1, math.MaxInt32, math.MaxInt - 1, math.MaxInt}

const eps = api.Eps

// w is a word.
func w(symbols ...int) []int { return symbols }

// times is a word of one symbol, any number of times.
func times(n, symbol int) []int { return slices.Repeat([]int{symbol}, n) }

// blank is a subsequential transducer without steps and final states.
func blank(size, states int) api.Sub {
	s := api.Sub{Size: size}
	for range states {
		s.Next = append(s.Next, times(size, -1))
		s.Out = append(s.Out, make([][]int, size))
		s.Final = append(s.Final, false)
		s.Tail = append(s.Tail, nil)
	}
	return s
}

// A step is that of a subsequential transducer.
type step struct {
	from, symbol, to int
	out              []int
}

// sub is a subsequential transducer with some steps, whose given states are final, with their tails.
func sub(size, states int, head []int, tails map[int][]int, steps ...step) api.Sub {
	s := blank(size, states)
	s.Head = head
	for p, tail := range tails {
		s.Final[p], s.Tail[p] = true, tail
	}
	for _, x := range steps {
		s.Next[x.from][x.symbol], s.Out[x.from][x.symbol] = x.to, x.out
	}
	return s
}

// example is the subsequential transducer of the chapter.
func example() api.Sub {
	return sub(2, 2, nil, map[int][]int{1: w(5)}, step{0, 0, 1, w(3)}, step{1, 0, 1, w(5)}, step{1, 1, 0, nil})
}

// exampleMin is its canonical one.
func exampleMin() api.Sub {
	return sub(2, 2, w(3), map[int][]int{1: w(5)}, step{0, 0, 1, nil}, step{1, 0, 1, w(5)}, step{1, 1, 0, w(3)})
}

// row is a subsequential transducer of some states, each of which leads by all symbols to the next one, and writes a word; the last one is final.
func row(size, states int, out []int) api.Sub {
	s := blank(size, states)
	for p := range states - 1 {
		for x := range size {
			s.Next[p][x], s.Out[p][x] = p+1, out
		}
	}
	s.Final[states-1] = true
	return s
}

func arc(from, in, out, to int) api.Arc {
	return api.Arc{From: from, In: in, Out: out, To: to}
}

// machine is a transducer of layer 9 with some states, of which the given ones are final.
func machine(states int, final []int, arcs ...api.Arc) api.FST {
	t := api.FST{Final: make([]bool, states), Arcs: arcs}
	for _, s := range final {
		t.Final[s] = true
	}
	return t
}

// way returns the arcs of a way that reads a symbol and writes a word; the states between its ends are numbered from the given one on.
func way(from, in int, out []int, to, between int) []api.Arc {
	if len(out) == 0 {
		return []api.Arc{arc(from, in, eps, to)}
	}
	var l []api.Arc
	for i, x := range out {
		next := between + i
		if i == len(out)-1 {
			next = to
		}
		l = append(l, arc(from, in, x, next))
		from, in = next, eps
	}
	return l
}

// randomWord is a word of at most some symbols.
func randomWord(r *rand.Rand, most, symbols int) []int {
	var l []int
	for range r.Intn(most + 1) {
		l = append(l, r.Intn(symbols))
	}
	return l
}

// randomSub is a valid subsequential transducer. Some of its states are not reached or lead nowhere.
func randomSub(r *rand.Rand, size, states, symbols int) api.Sub {
	s := blank(size, states)
	s.Head = randomWord(r, 2, symbols)
	rareSteps, rareEnds := 1+r.Intn(4), 1+r.Intn(3)
	for p := range states {
		if s.Final[p] = r.Intn(rareEnds) == 0; s.Final[p] {
			s.Tail[p] = randomWord(r, 2, symbols)
		}
		for x := range size {
			if r.Intn(4) >= rareSteps {
				continue
			}
			s.Next[p][x], s.Out[p][x] = r.Intn(states), randomWord(r, 2, symbols)
		}
	}
	return s
}

// smallSub is a random one of a few states, symbols and outputs, so that outputs often agree.
func smallSub(r *rand.Rand) api.Sub {
	return randomSub(r, 1+r.Intn(2), 1+r.Intn(4), 1+r.Intn(2))
}

// random is a valid transducer of layer 9. Some of its states belong to no accepting path.
func random(r *rand.Rand, symbols, states, arcs int) api.FST {
	label := func() int {
		if r.Intn(4) == 0 {
			return eps
		}
		return r.Intn(symbols)
	}
	t := machine(states, nil)
	rare := 1 + r.Intn(3)
	for s := range states {
		t.Final[s] = r.Intn(rare) == 0
	}
	for range r.Intn(arcs + 1) {
		t.Arcs = append(t.Arcs, arc(r.Intn(states), label(), label(), r.Intn(states)))
	}
	return t
}

// outputBy is the output for a word, symbol by symbol from a state on.
func outputBy(s api.Sub, word []int) ([]int, bool) {
	var from func(p int, rest []int) ([]int, bool)
	from = func(p int, rest []int) ([]int, bool) {
		if len(rest) == 0 {
			return s.Tail[p], s.Final[p]
		}
		x := rest[0]
		if x < 0 || x >= s.Size || s.Next[p][x] < 0 {
			return nil, false
		}
		behind, ok := from(s.Next[p][x], rest[1:])
		return slices.Concat(s.Out[p][x], behind), ok
	}
	out, ok := from(0, word)
	if !ok {
		return nil, false
	}
	return slices.Concat(s.Head, out), true
}

// wordsUpTo are all words over the symbols from 0 to size-1 up to a length.
func wordsUpTo(length, size int) [][]int {
	l := [][]int{nil}
	for i := 0; i < len(l) && len(l[i]) < length; i++ {
		for n := range size {
			l = append(l, append(slices.Clone(l[i]), n))
		}
	}
	return l
}

func text(word []int) string {
	var b []byte
	for _, n := range word {
		b = append(b, byte(n))
	}
	return string(b)
}

func word(s string) []int {
	var l []int
	for _, b := range []byte(s) {
		l = append(l, int(b))
	}
	return l
}

// label is what an arc adds to a word.
func label(n int) string {
	if n == eps {
		return ""
	}
	return string([]byte{byte(n)})
}

func copySub(s api.Sub) api.Sub {
	c := api.Sub{Size: s.Size, Head: slices.Clone(s.Head), Final: slices.Clone(s.Final)}
	for p := range s.Next {
		c.Next = append(c.Next, slices.Clone(s.Next[p]))
		c.Tail = append(c.Tail, slices.Clone(s.Tail[p]))
		var out [][]int
		for _, o := range s.Out[p] {
			out = append(out, slices.Clone(o))
		}
		c.Out = append(c.Out, out)
	}
	return c
}

func copyFST(t api.FST) api.FST {
	return api.FST{Final: slices.Clone(t.Final), Arcs: slices.Clone(t.Arcs)}
}

// equal compares two subsequential transducers; nil and empty lists are equal.
func equal(a, b api.Sub) bool {
	lists := func(a, b [][]int) bool { return slices.EqualFunc(a, b, slices.Equal[[]int]) }
	return a.Size == b.Size && slices.Equal(a.Head, b.Head) && lists(a.Next, b.Next) && slices.EqualFunc(a.Out, b.Out, lists) && slices.Equal(a.Final, b.Final) && lists(a.Tail, b.Tail)
}

// short is what is printed of a subsequential transducer.
func short(s api.Sub) any {
	if len(s.Next) > 20 || s.Size > 20 || len(fmt.Sprint(s)) > 2000 {
		return fmt.Sprintf("%d states of the size %d", len(s.Next), s.Size)
	}
	return s
}

// is checks a subsequential transducer.
func is(t *testing.T, what string, got, want api.Sub) {
	t.Helper()
	if !equal(got, want) {
		t.Errorf("%s: %v, want %v", what, short(got), short(want))
	}
}

// zero checks that a subsequential transducer is the zero value.
func zero(t *testing.T, what string, got api.Sub) {
	t.Helper()
	if !reflect.DeepEqual(got, api.Sub{}) {
		t.Errorf("%s: %v, want the zero value", what, short(got))
	}
}

// runs checks the output for a word.
func runs(t *testing.T, what string, s api.Sub, input, want []int) {
	t.Helper()
	got, ok := subseq.Run(s, input)
	if !ok || !slices.Equal(got, want) {
		t.Errorf("%s for %v: %v, %v, want %v", what, input, got, ok, want)
	}
}

// runsNot checks that a word has no output.
func runsNot(t *testing.T, what string, s api.Sub, input []int) {
	t.Helper()
	if got, ok := subseq.Run(s, input); ok || got != nil {
		t.Errorf("%s for %d symbols: %v, %v, want none", what, len(input), got, ok)
	}
}

// sameOutputs checks that two subsequential transducers have the same outputs for all words up to a length.
func sameOutputs(t *testing.T, what string, got, want api.Sub, length int) {
	t.Helper()
	for _, word := range wordsUpTo(length, want.Size) {
		x, ok := outputBy(got, word)
		y, exists := outputBy(want, word)
		if ok != exists || !slices.Equal(x, y) {
			t.Fatalf("%s: %v has for %v the output %v, %v, want %v, %v", what, short(got), word, x, ok, y, exists)
		}
	}
}

// determinized checks that Determinize has a canonical result, and returns it.
func determinized(t *testing.T, what string, u api.FST, size int) api.Sub {
	t.Helper()
	s, code := subseq.Determinize(u, size)
	if code != api.OK {
		t.Fatalf("%s: error %d", what, code)
	}
	if fault := notCanonical(s); fault != "" || s.Size != size {
		t.Fatalf("%s: %v of the size %d: %s", what, short(s), s.Size, fault)
	}
	return s
}

// fails checks an error of Determinize, and the zero value beside it.
func fails(t *testing.T, what string, u api.FST, size int, want api.Errno) {
	t.Helper()
	s, code := subseq.Determinize(u, size)
	if code != want {
		t.Errorf("%s: error %d, want %d", what, code, want)
	}
	zero(t, what, s)
}

// must is the result of an operation of layer 9 that has no error.
func must(t api.FST, code api.Errno) api.FST {
	if code != api.OK || !fst.Valid(t) {
		panic(fmt.Sprint("no transducer: error ", code))
	}
	return t
}
