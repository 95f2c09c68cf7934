package subseq_test

import (
	"math/rand"
	"reflect"
	"slices"
	"testing"

	"wordbook/api"
	"wordbook/subseq"
)

// spare returns a list with spare capacity, in which a mark stands.
func spare(l []int) []int {
	return append(append(make([]int, 0, len(l)+2), l...), 99)[:len(l)]
}

// lists are all lists of integers of a subsequential transducer.
func lists(s api.Sub) [][]int {
	l := append([][]int{s.Head}, s.Next...)
	for _, out := range s.Out {
		l = append(l, out...)
	}
	return append(l, s.Tail...)
}

// roomy is a subsequential transducer all of whose lists have spare capacity.
func roomy(s api.Sub) api.Sub {
	c := api.Sub{Size: s.Size, Head: spare(s.Head), Final: append(slices.Clone(s.Final), true)[:len(s.Final)]}
	for p := range s.Next {
		c.Next = append(c.Next, spare(s.Next[p]))
		c.Tail = append(c.Tail, spare(s.Tail[p]))
		var out [][]int
		for _, o := range s.Out[p] {
			out = append(out, spare(o))
		}
		c.Out = append(c.Out, append(out, spare(w(98)))[:len(out)])
	}
	c.Next = append(c.Next, spare(w(97)))[:len(c.Next)]
	c.Out = append(c.Out, [][]int{spare(w(96))})[:len(c.Out)]
	c.Tail = append(c.Tail, spare(w(95)))[:len(c.Tail)]
	return c
}

// unchanged checks that lists and what stands in their spare capacity have not been changed.
func unchanged(t *testing.T, what string, s, before api.Sub) {
	t.Helper()
	is(t, what+" has changed its argument", s, before)
	full := api.Sub{Size: s.Size, Head: s.Head, Final: s.Final[:len(s.Final)+1], Next: s.Next[:len(s.Next)+1], Out: s.Out[:len(s.Out)+1], Tail: s.Tail[:len(s.Tail)+1]}
	if !full.Final[len(s.Final)] || full.Next[len(s.Next)][0] != 97 || full.Out[len(s.Out)][0][0] != 96 || full.Tail[len(s.Tail)][0] != 95 {
		t.Errorf("%s has changed the spare capacity of its argument", what)
	}
	for _, l := range lists(full) {
		if l[:len(l)+1][len(l)] != 99 {
			t.Errorf("%s has changed the spare capacity of a list", what)
		}
	}
	for _, out := range s.Out {
		if out[:len(out)+1][len(out)][0] != 98 {
			t.Errorf("%s has changed the spare capacity of Out", what)
		}
	}
}

// spoil overwrites all of a subsequential transducer, with the spare capacity of its lists, and checks that none of these lists share memory.
func spoil(t *testing.T, what string, s api.Sub) {
	t.Helper()
	for i, l := range lists(s) {
		full := l[:cap(l)]
		for j := range full {
			full[j] = -1000 - i
		}
	}
	for i, l := range lists(s) {
		for _, n := range l[:cap(l)] {
			if n != -1000-i {
				t.Errorf("%s: two lists share memory", what)
			}
		}
	}
	rows := [][][]int{s.Next, s.Tail}
	rows = append(rows, s.Out...)
	for i, row := range rows {
		for j := range row[:cap(row)] {
			row[:cap(row)][j] = w(i)
		}
	}
	for i, row := range rows {
		for _, l := range row[:cap(row)] {
			if l[0] != i {
				t.Errorf("%s: two lists of lists share memory", what)
			}
		}
	}
	for p := range s.Final[:cap(s.Final)] {
		s.Final[:cap(s.Final)][p] = !s.Final[:cap(s.Final)][p]
	}
}

// TestMemory checks that arguments are neither changed nor kept, and that results are new.
func TestMemory(t *testing.T) {
	r := rand.New(rand.NewSource(41))
	for range 2000 {
		plain := smallSub(r)
		s := roomy(plain)
		input := spare(randomWord(r, 4, s.Size))
		before := slices.Clone(input)
		for range 2 {
			out, ok := subseq.Run(s, input)
			want, exists := outputBy(plain, before)
			if ok != exists || !slices.Equal(out, want) {
				t.Fatalf("Run of %v for %v: %v", plain, before, out)
			}
			for i := range out[:cap(out)] {
				out[:cap(out)][i] = -5
			}
		}
		if !slices.Equal(input, before) || input[:len(input)+1][len(input)] != 99 {
			t.Fatal("Run has changed its word")
		}
		unchanged(t, "Run", s, plain)
		subseq.Valid(s)
		unchanged(t, "Valid", s, plain)
		m := subseq.Min(s)
		want := copySub(m)
		spoil(t, "Min", m)
		unchanged(t, "Min", s, plain)
		is(t, "Min, again", subseq.Min(s), want)
		if !subseq.Same(s, s) || !subseq.Same(s, want) {
			t.Error("Same: false")
		}
		unchanged(t, "Same", s, plain)
		u := subseq.Of(s)
		keep := copyFST(u)
		unchanged(t, "Of", s, plain)
		for range 2 {
			d, code := subseq.Determinize(u, s.Size)
			if code != api.OK {
				t.Fatal("Determinize: error", code)
			}
			is(t, "Determinize", d, want)
			spoil(t, "Determinize", d)
			if !subseq.Functional(u) || !reflect.DeepEqual(u, keep) {
				t.Error("Functional or Determinize has changed its argument")
			}
		}
		for i := range u.Arcs[:cap(u.Arcs)] {
			u.Arcs[:cap(u.Arcs)][i] = arc(7, 7, 7, 7)
		}
		for i := range u.Final[:cap(u.Final)] {
			u.Final[:cap(u.Final)][i] = true
		}
		unchanged(t, "a change of what Of has returned", s, plain)
		if !reflect.DeepEqual(subseq.Of(s), keep) {
			t.Error("Of, again")
		}
		if t.Failed() {
			t.Fatal(plain)
		}
	}
}

// TestSpareFST checks that the spare capacity of a transducer of layer 9 is not changed.
func TestSpareFST(t *testing.T) {
	for what, u := range functions() {
		plain := copyFST(u)
		u.Final = append(u.Final, true, true)[:len(u.Final)]
		u.Arcs = append(slices.Clone(u.Arcs), arc(9, 9, 9, 9))[:len(u.Arcs)]
		subseq.Functional(u)
		for _, size := range []int{1, 2, 64} {
			subseq.Determinize(u, size)
		}
		if !slices.Equal(u.Final, plain.Final) || !slices.Equal(u.Arcs, plain.Arcs) || u.Arcs[:len(u.Arcs)+1][len(u.Arcs)] != arc(9, 9, 9, 9) || !u.Final[:len(u.Final)+2][len(u.Final)] {
			t.Errorf("%s: changed", what)
		}
	}
}
