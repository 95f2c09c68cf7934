package fst_test

import (
	"math/rand"
	"slices"
	"testing"

	"wordbook/api"
	"wordbook/fst"
)

// composed is Compose without an error.
func composed(t *testing.T, u, v api.FST) api.FST {
	t.Helper()
	c, code := fst.Compose(u, v)
	if code != api.OK || !fst.Valid(c) {
		t.Fatalf("P9.4: Compose: error %d", code)
	}
	return c
}

func TestCompose(t *testing.T) {
	outputs(t, "Examples", composed(t, example(), fst.Word([]int{1}, []int{2, 2})), []int{0, 0}, []int{2, 2})
	for _, x := range []struct {
		u, v api.FST
		want relation
	}{
		{nothing(), example(), relation{}}, {example(), nothing(), relation{}}, {fst.Word(nil, nil), fst.Word(nil, nil), relation{{}: true}},
		{fst.Word([]int{0}, []int{1}), fst.Word([]int{1}, []int{2}), relation{{"\x00", "\x02"}: true}}, {fst.Word([]int{0}, []int{1}), fst.Word([]int{2}, []int{1}), relation{}},
		// Nothing stands between the two where one writes nothing, or the other reads nothing.
		{fst.Word([]int{0}, nil), fst.Word(nil, []int{2}), relation{{"\x00", "\x02"}: true}}, {fst.Word(nil, []int{1, 1}), fst.Word([]int{1, 1}, nil), relation{{}: true}}, {fst.Word([]int{0, 0}, []int{1}), fst.Word([]int{1}, []int{2, 2}), relation{{"\x00\x00", "\x02\x02"}: true}},
		// An arc that writes nothing does not fit one that reads nothing, as if this were a symbol.
		{machine(2, []int{1}, arc(0, 1, eps, 1)), machine(2, []int{1}, arc(0, 2, 2, 1), arc(0, 63, 63, 1)), relation{}},
		{machine(2, []int{1}, arc(0, 63, 63, 1)), machine(2, []int{1}, arc(0, 63, 62, 1)), relation{{"\x3f", "\x3e"}: true}},
		// What both read is repeated.
		{example(), machine(2, []int{0}, arc(0, 1, 0, 1), arc(1, 1, eps, 0)), relation{{"", ""}: true, {"\x00", ""}: true, {"\x00\x00", ""}: true, {"\x00\x00", "\x00"}: true}},
	} {
		relates(t, "P9.4: Compose", composed(t, x.u, x.v), x.want, 2, 2)
	}
}

// without are the arcs of a transducer that do not have a property.
func without(u api.FST, has func(a api.Arc) bool) api.FST {
	return api.FST{Final: u.Final, Arcs: slices.DeleteFunc(slices.Clone(u.Arcs), has)}
}

func TestRandomCompose(t *testing.T) {
	r := rand.New(rand.NewSource(7))
	pairs := 0
	for range 6000 {
		u, v := small(r), small(r)
		c := composed(t, u, v)
		states, steps := pairsBy(u, v)
		fits(t, "P9.4: Compose", c, states, steps)
		got := related(c, 2, 2)
		for p := range through(related(u, 2, 4), related(v, 4, 2)) {
			if !got[p] {
				t.Fatalf("P9.4: Compose of %v and %v does not have the pair %v", u, v, p)
			}
		}
		// What is between the two is not longer than what is read, or than what is written.
		u1 := without(u, func(a api.Arc) bool { return a.In == eps && a.Out != eps })
		relates(t, "P9.4: Compose", composed(t, u1, v), through(related(u1, 3, 3), related(v, 3, 3)), 3, 3)
		v1 := without(v, func(a api.Arc) bool { return a.In != eps && a.Out == eps })
		want := through(related(u, 3, 3), related(v1, 3, 3))
		relates(t, "P9.4: Compose", composed(t, u, v1), want, 3, 3)
		if len(want) > 2 {
			pairs++
		}
	}
	if pairs < 1000 {
		t.Error("these have more than 2 pairs:", pairs)
	}
}

func TestComposition(t *testing.T) {
	r := rand.New(rand.NewSource(8))
	all, several := 0, 0
	for range 3000 {
		u, v, x := small(r), small(r), small(r)
		uv, vx := composed(t, u, v), composed(t, v, x)
		relates(t, "P9.9: associative", composed(t, uv, x), related(composed(t, u, vx), 3, 3), 3, 3)
		for _, w := range wordsUpTo(3, 2) {
			got, code := fst.Apply(uv, w, api.MaxOut)
			between, code1 := fst.Apply(u, w, api.MaxOut)
			if code != api.OK || code1 != api.OK {
				continue
			}
			var want [][]int
			for _, y := range between {
				l, code := fst.Apply(v, y, api.MaxOut)
				if code != api.OK {
					t.Fatalf("P9.9: an output of %v has too many outputs by %v", u, v)
				}
				want = append(want, l...)
			}
			slices.SortFunc(want, func(a, b []int) int { return less(text(a), text(b)) })
			want = slices.CompactFunc(want, slices.Equal[[]int])
			if !slices.EqualFunc(got, want, slices.Equal[[]int]) {
				t.Fatalf("P9.9: outputs %v of %v by %v and %v, want %v", got, w, u, v, want)
			}
			all++
			if len(want) > 1 {
				several++
			}
		}
	}
	if all < 10000 || several < 500 {
		t.Error("these have some outputs, and several:", all, several)
	}
}

// stars are a transducer with different arcs from the start alone, 64 of them to the start, and 64 to one more state. They read or write one symbol, and write or read (-1) any others.
func stars(arcs, in, out int) api.FST {
	u := machine(2, []int{0})
	for i := range arcs {
		a := arc(0, in, out, i/64)
		if in < 0 {
			a.In = i % 64
		} else {
			a.Out = i % 64
		}
		u.Arcs = append(u.Arcs, a)
	}
	return u
}

// copies are n arcs.
func copies(n int, a api.Arc) []api.Arc {
	return slices.Repeat([]api.Arc{a}, n)
}

// oneMore is a transducer with another arc, and another state.
func oneMore(u api.FST, a api.Arc) api.FST {
	return api.FST{Final: append(slices.Clone(u.Final), true), Arcs: append(slices.Clone(u.Arcs), a)}
}

func TestComposeLimit(t *testing.T) {
	reads, writes := machine(1, nil, copies(4096, arc(0, 1, eps, 0))...), machine(1, nil, copies(4096, arc(0, eps, 1, 0))...)
	for name, x := range map[string]struct {
		u, v          api.FST
		states, steps int
	}{
		"2048 pairs by arcs without a symbol": {ring(32, 1, eps), ring(64, eps, 1), 2048, 4096},
		"2049 pairs by arcs without a symbol": {ring(683, 1, eps), ring(3, eps, 1), 2049, 4098},
		"2048 pairs by symbols":               {ring(2048, 1, 2), ring(2048, 2, 3), 2048, 2048},
		"2048 pairs, and one state":           {ring(2048, 1, 2), ring(1, 2, 3), 2048, 2048},
		"2049 pairs by symbols":               {ring(683, 1, 2), ring(3, 2, 3), 2049, 2049},
		"4096 pairs":                          {ring(2048, 1, eps), ring(2, eps, 1), 4096, 8192},
		"2048 pairs without an end":           {machine(2048, nil, ring(2048, 1, eps).Arcs...), nothing(), 2048, 2048},
		"2049 pairs without an end":           {machine(683, nil, ring(683, 1, eps).Arcs...), ring(3, eps, 1), 2049, 4098},
		"2048 pairs, some of which end":       {machine(1024, []int{1}, chain(1024, 1, eps).Arcs...), chain(2, eps, 1), 2048, 2*1023 + 1024},
		"2050 pairs, some of which end":       {machine(1025, []int{1}, chain(1025, 1, eps).Arcs...), chain(2, eps, 1), 2050, 2*1024 + 1025},
		"pairs that are not reached":          {ring(2048, 1, 2), ring(2048, 3, 3), 1, 0},
		"8192 steps":                          {stars(64, -1, 1), stars(128, 1, -1), 2, 8192},
		"8193 steps, one without an input":    {stars(64, -1, 1), oneMore(stars(128, 1, -1), arc(0, eps, 7, 2)), 3, 8193},
		"8193 steps, one without an output":   {oneMore(stars(128, -1, 1), arc(0, 7, eps, 2)), stars(64, 1, -1), 3, 8193},
		"8192 steps without symbols":          {reads, writes, 1, 8192},
		"8193 steps, more to the left":        {oneMore(reads, arc(0, 2, eps, 0)), writes, 1, 8193},
		"8193 steps, more to the right":       {reads, oneMore(writes, arc(0, eps, 2, 0)), 1, 8193},
		"8192 steps behind one another":       {machine(2, []int{1}, append(copies(8191, arc(1, 1, eps, 1)), arc(0, 1, eps, 1))...), machine(1, []int{0}), 2, 8192},
		"8193 steps behind one another":       {machine(2, []int{1}, append(copies(8190, arc(1, 1, eps, 1)), arc(0, 1, eps, 1))...), machine(1, []int{0}, arc(0, eps, 2, 0)), 2, 8193},
		"8193 steps, none of which ends":      {machine(2, nil, stars(64, -1, 1).Arcs...), oneMore(stars(128, 1, -1), arc(0, eps, 7, 2)), 3, 8193},
		"very many steps":                     {withArcs(nothing(), 8192), withArcs(nothing(), 8192), 1, 8192 * 8192},
		"arcs that do not fit":                {withArcs(nothing(), 8192), machine(1, nil, copies(8192, arc(0, 4, 5, 0))...), 1, 0},
		"arcs that are not reached":           {withArcs(machine(2, []int{0}), 8192), machine(2, []int{0}, copies(8192, arc(1, 5, 5, 0))...), 1, 0},
	} {
		if states, steps := pairsBy(x.u, x.v); states != x.states || steps != x.steps {
			t.Fatalf("%s: %d pairs and %d steps", name, states, steps)
		}
		c, code := fst.Compose(x.u, x.v)
		if x.states > api.MaxStates || x.steps > api.MaxArcs {
			fails(t, "P9.4: Compose: "+name, c, code, api.ErrLimit)
			continue
		}
		if code != api.OK {
			t.Errorf("P9.4: Compose: %s: error %d", name, code)
			continue
		}
		fits(t, "P9.4: Compose: "+name, c, x.states, x.steps)
	}
}

func TestComposeLarge(t *testing.T) {
	ones, threes := slices.Repeat([]int{1}, 1024), slices.Repeat([]int{3}, 1024)
	c := composed(t, ring(512, 1, 2), ring(512, 2, 3))
	outputs(t, "P9.4: Compose", c, ones, threes)
	outputs(t, "P9.4: Compose", c, ones[1:])
	c = composed(t, ring(32, 1, eps), ring(64, eps, 3))
	if _, code := fst.Apply(c, ones, api.MaxOut); code != api.ErrLimit {
		t.Error("P9.4: there are infinitely many outputs, error", code)
	}
}
