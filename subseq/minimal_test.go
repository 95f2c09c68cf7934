package subseq_test

import (
	"math/rand"
	"slices"
	"testing"

	"wordbook/api"
	"wordbook/subseq"
)

// minimal checks that Min returns the canonical transducer with the same outputs for all words up to a length, and returns it.
func minimal(t *testing.T, what string, s api.Sub, length int) api.Sub {
	t.Helper()
	m := subseq.Min(s)
	if !subseq.Valid(m) || m.Size != s.Size {
		t.Fatalf("P10.4: %s: %v, not valid", what, short(m))
	}
	if fault := notCanonical(m); fault != "" {
		t.Errorf("P10.4: %s: %v for %v: %s", what, short(m), short(s), fault)
	}
	sameOutputs(t, "P10.7: "+what, m, s, length)
	is(t, "P10.8: Min of Min", subseq.Min(m), m)
	return m
}

func TestMin(t *testing.T) {
	nil0, nil1 := map[int][]int{0: nil}, map[int][]int{1: nil}
	for what, x := range map[string]struct{ s, want api.Sub }{
		"the example":                    {example(), exampleMin()},
		"no outputs":                     {sub(2, 3, w(1), nil, step{0, 0, 1, w(1)}, step{1, 1, 0, nil}, step{1, 0, 2, nil}), blank(2, 1)},
		"no outputs from the start":      {sub(2, 2, w(1), map[int][]int{1: w(1)}, step{1, 1, 0, w(1)}, step{1, 0, 1, nil}), blank(2, 1)},
		"the empty word":                 {sub(1, 1, nil, nil0), sub(1, 1, nil, nil0)},
		"a Tail of the start":            {sub(1, 1, w(1), map[int][]int{0: w(2, 3)}), sub(1, 1, w(1, 2, 3), nil0)},
		"states that are not reached":    {sub(1, 3, nil, map[int][]int{0: nil, 2: w(1)}, step{1, 0, 0, w(1)}, step{2, 0, 2, w(1)}), sub(1, 1, nil, nil0)},
		"states that lead nowhere":       {sub(2, 3, nil, nil0, step{0, 0, 1, w(1)}, step{1, 0, 2, w(1)}, step{2, 0, 1, w(1)}, step{0, 1, 0, w(1)}), sub(2, 1, nil, nil0, step{0, 1, 0, w(1)})},
		"early over several steps":       {sub(1, 4, nil, map[int][]int{3: w(3)}, step{0, 0, 1, nil}, step{1, 0, 2, w(1)}, step{2, 0, 3, w(2)}), sub(1, 4, w(1, 2, 3), map[int][]int{3: nil}, step{0, 0, 1, nil}, step{1, 0, 2, nil}, step{2, 0, 3, nil})},
		"early on a step":                {sub(2, 3, nil, map[int][]int{0: w(8), 1: w(1, 2), 2: w(3)}, step{0, 0, 1, w(4)}, step{0, 1, 2, w(5)}), sub(2, 2, nil, map[int][]int{0: w(8), 1: nil}, step{0, 0, 1, w(4, 1, 2)}, step{0, 1, 1, w(5, 3)})},
		"a part is common":               {sub(2, 2, nil, nil1, step{0, 0, 1, w(1, 2, 3)}, step{0, 1, 1, w(1, 2, 4, 5)}), sub(2, 2, w(1, 2), nil1, step{0, 0, 1, w(3)}, step{0, 1, 1, w(4, 5)})},
		"the beginning of the other one": {sub(2, 2, nil, nil1, step{0, 0, 1, w(1, 2, 3)}, step{0, 1, 1, w(1, 2)}), sub(2, 2, w(1, 2), nil1, step{0, 0, 1, w(3)}, step{0, 1, 1, nil})},
		"common with the Tail":           {sub(1, 1, nil, map[int][]int{0: w(1, 1)}, step{0, 0, 0, w(1)}), sub(1, 1, w(1, 1), nil0, step{0, 0, 0, w(1)})},
		"common with a part of the Tail": {sub(1, 2, nil, map[int][]int{0: w(1, 2), 1: nil}, step{0, 0, 1, w(1, 3)}), sub(1, 2, w(1), map[int][]int{0: w(2), 1: nil}, step{0, 0, 1, w(3)})},
		"nothing is common with no Tail": {sub(1, 2, nil, map[int][]int{0: nil, 1: w(1)}, step{0, 0, 1, w(1)}), sub(1, 2, nil, map[int][]int{0: nil, 1: nil}, step{0, 0, 1, w(1, 1)})},
		"turned in a circle":             {sub(1, 2, nil, nil0, step{0, 0, 1, w(1, 2)}, step{1, 0, 0, w(3)}), sub(1, 2, nil, nil0, step{0, 0, 1, w(1, 2, 3)}, step{1, 0, 0, nil})},
		"states with equal outputs":      {sub(2, 4, nil, map[int][]int{3: nil}, step{0, 0, 1, nil}, step{0, 1, 2, w(9)}, step{1, 0, 3, w(1)}, step{2, 0, 3, w(1)}), sub(2, 3, nil, map[int][]int{2: nil}, step{0, 0, 1, w(1)}, step{0, 1, 1, w(9, 1)}, step{1, 0, 2, nil})},
		"equal if written early":         {sub(2, 4, nil, map[int][]int{3: w(2)}, step{0, 0, 1, w(1)}, step{0, 1, 2, w(1, 1)}, step{1, 0, 3, w(1)}, step{2, 0, 3, nil}), sub(2, 3, w(1, 1, 2), map[int][]int{2: nil}, step{0, 0, 1, nil}, step{0, 1, 1, nil}, step{1, 0, 2, nil})},
		"a circle of equal states":       {sub(1, 3, nil, map[int][]int{0: nil, 1: nil, 2: nil}, step{0, 0, 1, w(1)}, step{1, 0, 2, w(1)}, step{2, 0, 0, w(1)}), sub(1, 1, nil, nil0, step{0, 0, 0, w(1)})},
		"a circle of states but for one": {sub(1, 3, nil, map[int][]int{0: nil, 1: nil, 2: nil}, step{0, 0, 1, w(1)}, step{1, 0, 2, w(1)}, step{2, 0, 0, w(2)}), sub(1, 3, nil, map[int][]int{0: nil, 1: nil, 2: nil}, step{0, 0, 1, w(1)}, step{1, 0, 2, w(1)}, step{2, 0, 0, w(2)})},
		"numbered in another order":      {sub(2, 3, nil, map[int][]int{1: nil, 2: w(1)}, step{0, 0, 2, nil}, step{0, 1, 1, w(2)}, step{2, 1, 2, w(3)}), sub(2, 3, nil, map[int][]int{1: w(1), 2: nil}, step{0, 0, 1, nil}, step{0, 1, 2, w(2)}, step{1, 1, 1, w(3)})},
		"numbered not by a depth search": {sub(2, 4, nil, map[int][]int{1: nil, 2: w(1), 3: w(2)}, step{0, 0, 1, w(2)}, step{1, 0, 2, nil}, step{0, 1, 3, w(1)}, step{3, 0, 3, w(7)}, step{2, 0, 2, w(8)}), sub(2, 4, nil, map[int][]int{1: nil, 2: w(2), 3: w(1)}, step{0, 0, 1, w(2)}, step{0, 1, 2, w(1)}, step{1, 0, 3, nil}, step{2, 0, 2, w(7)}, step{3, 0, 3, w(8)})},
		"Final tells states apart":       {sub(2, 3, nil, map[int][]int{0: nil, 1: nil}, step{0, 0, 1, nil}, step{0, 1, 2, nil}, step{1, 0, 1, nil}, step{2, 0, 1, nil}), sub(2, 3, nil, map[int][]int{0: nil, 1: nil}, step{0, 0, 1, nil}, step{0, 1, 2, nil}, step{1, 0, 1, nil}, step{2, 0, 1, nil})},
		"Tail tells states apart":        {sub(2, 3, nil, map[int][]int{0: nil, 1: w(1), 2: w(2)}, step{0, 0, 1, nil}, step{0, 1, 2, nil}, step{1, 0, 0, nil}, step{2, 0, 0, nil}), sub(2, 3, nil, map[int][]int{0: nil, 1: w(1), 2: w(2)}, step{0, 0, 1, nil}, step{0, 1, 2, nil}, step{1, 0, 0, nil}, step{2, 0, 0, nil})},
		"a Next tells states apart":      {sub(2, 3, nil, map[int][]int{0: nil, 1: nil, 2: nil}, step{0, 0, 1, nil}, step{0, 1, 2, nil}, step{1, 0, 0, nil}, step{2, 1, 0, nil}), sub(2, 3, nil, map[int][]int{0: nil, 1: nil, 2: nil}, step{0, 0, 1, nil}, step{0, 1, 2, nil}, step{1, 0, 0, nil}, step{2, 1, 0, nil})},
		"the greatest symbols":           {sub(64, 2, w(63), map[int][]int{1: w(63)}, step{0, 63, 1, w(0)}, step{1, 63, 1, w(0)}), sub(64, 2, w(63, 0), map[int][]int{1: w(63)}, step{0, 63, 1, nil}, step{1, 63, 1, w(0)})},
	} {
		length := 5
		if x.s.Size > 4 {
			length = 1
		}
		is(t, "P10.4: "+what, minimal(t, what, x.s, length), x.want)
	}
}

func TestRandomMin(t *testing.T) {
	r := rand.New(rand.NewSource(31))
	states := map[int]int{}
	for range 20000 {
		s := smallSub(r)
		if r.Intn(2) == 0 {
			s = delayed(s)
		}
		m := minimal(t, "random", s, 6)
		if t.Failed() {
			t.Fatal(s)
		}
		states[len(m.Next)]++
		// P10.8: Of leads back.
		back, code := subseq.Determinize(subseq.Of(s), s.Size)
		if code != api.OK || !equal(back, m) {
			t.Fatalf("P10.8: Determinize(Of(%v)): error %d, %v, want %v", s, code, back, m)
		}
	}
	if states[1] < 500 || states[2] < 500 || states[3] < 500 || states[4] < 300 {
		t.Error("these have so many states:", states)
	}
}

// TestEarly checks that what is written up to the end of a beginning is what all outputs of words with this beginning have in common.
func TestEarly(t *testing.T) {
	r := rand.New(rand.NewSource(32))
	begun := 0
	for range 800 {
		s := smallSub(r)
		m := subseq.Min(s)
		for _, start := range wordsUpTo(3, s.Size) {
			// Longer words than these are not needed: there are at most four states.
			var common []int
			found := false
			for _, rest := range wordsUpTo(8, s.Size) {
				out, ok := subseq.Run(s, slices.Concat(start, rest))
				if !ok {
					continue
				}
				if !found {
					found, common = true, out
				}
				n := 0
				for n < len(common) && n < len(out) && common[n] == out[n] {
					n++
				}
				common = common[:n]
			}
			if !found {
				continue
			}
			begun++
			written, p := m.Head, 0
			for _, x := range start {
				written = slices.Concat(written, m.Out[p][x])
				p = m.Next[p][x]
			}
			if !slices.Equal(written, common) {
				t.Fatalf("P10.9: by %v of %v there is written for %v %v, want %v", m, s, start, written, common)
			}
		}
	}
	if begun < 1500 {
		t.Error("so many beginnings:", begun)
	}
}

// TestGreatMin looks at transducers of the greatest sizes, and with long words that agree in many symbols.
func TestGreatMin(t *testing.T) {
	s := row(64, api.MaxStates, w(1))
	want := row(64, api.MaxStates, nil)
	want.Head = times(api.MaxStates-1, 1)
	is(t, "P10.4: a row", subseq.Min(s), want)
	s.Final[0] = true
	want = row(64, api.MaxStates, nil)
	want.Final[0] = true
	for x := range 64 {
		want.Out[0][x] = times(api.MaxStates-1, 1)
	}
	is(t, "P10.4: a row with another end", subseq.Min(s), want)
	ring := blank(64, api.MaxStates)
	for p := range api.MaxStates {
		ring.Final[p] = true
		for x := range 64 {
			ring.Next[p][x], ring.Out[p][x] = (p+x+1)%api.MaxStates, w(x)
		}
	}
	one := blank(64, 1)
	one.Final[0] = true
	for x := range 64 {
		one.Next[0][x], one.Out[0][x] = 0, w(x)
	}
	is(t, "P10.4: equal states", subseq.Min(ring), one)
	ring.Tail[5] = w(1)
	if m := subseq.Min(ring); len(m.Next) != api.MaxStates {
		t.Errorf("P10.4: states that are not equal: %d", len(m.Next))
	}
	// All states differ in what a step writes, and in nothing else.
	for p := range api.MaxStates {
		ring.Tail[p], ring.Out[p][0] = nil, w(p%64, p/64)
		for x := range 64 {
			ring.Next[p][x] = (p + 1) % api.MaxStates
		}
	}
	is(t, "P10.4: states that write different words", subseq.Min(ring), ring)
	// Words of many symbols agree but for the last one.
	const long = 1 << 17
	s = sub(2, 3, times(long, 1), map[int][]int{0: append(times(long, 1), 2), 1: times(5, 1), 2: append(times(7, 1), 3)}, step{0, 0, 0, times(long, 1)}, step{0, 1, 1, times(long, 1)}, step{1, 0, 2, times(long-7, 1)}, step{2, 1, 0, times(9, 1)})
	m := subseq.Min(s)
	want = sub(2, 3, times(2*long, 1), map[int][]int{0: w(2), 1: nil, 2: w(3)}, step{0, 0, 0, times(long, 1)}, step{0, 1, 1, times(5, 1)}, step{1, 0, 2, times(long-5, 1)}, step{2, 1, 0, times(long+2, 1)})
	is(t, "P10.4: long words", m, want)
	if !subseq.Same(s, m) {
		t.Error("P10.6: long words: not the same")
	}
	m.Head[long] = 0
	if subseq.Same(s, m) {
		t.Error("P10.6: long words that differ: the same")
	}
}
