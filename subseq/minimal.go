package subseq

import (
	"slices"

	"wordbook/api"
	"wordbook/wire"
)

// Min returns the canonical minimal subsequential transducer.
func Min(s api.Sub) api.Sub {
	if !Valid(s) {
		return api.Sub{}
	}
	t := newTexts()
	return canonical(t, s).sub(s.Size, t.symbols)
}

// Same reports whether two subsequential transducers compute the same function.
func Same(a, b api.Sub) bool {
	if !Valid(a) || !Valid(b) || a.Size != b.Size {
		return false
	}
	t := newTexts()
	return equal(t, canonical(t, a), canonical(t, b))
}

// A machine is a subsequential transducer with words of texts.
type machine struct {
	head  word
	next  [][]int
	out   [][]word
	final []bool
	tail  []word
}

// canonical returns the canonical transducer of a valid one.
func canonical(t *texts, s api.Sub) machine {
	c := continuationsOf(t, s)
	if !c.ends[0] {
		return machine{next: [][]int{slices.Repeat([]int{noStep}, s.Size)}, out: [][]word{make([]word, s.Size)}, final: []bool{false}, tail: []word{{}}}
	}
	m := c.early()
	return m.merged(m.classes(t))
}

// equal reports whether two machines are the same.
func equal(t *texts, m, n machine) bool {
	sameRows := func(v, w []word) bool { return slices.EqualFunc(v, w, t.same) }
	return t.same(m.head, n.head) && slices.EqualFunc(m.next, n.next, slices.Equal[[]int]) && slices.EqualFunc(m.out, n.out, sameRows) &&
		slices.Equal(m.final, n.final) && sameRows(m.tail, n.tail)
}

// sub returns a machine as a transducer, given how its words are written out.
func (m machine) sub(size int, written func(w word) []int) api.Sub {
	lists := func(words []word) [][]int {
		var l [][]int
		for _, w := range words {
			l = append(l, written(w))
		}
		return l
	}
	s := api.Sub{Size: size, Head: written(m.head), Next: m.next, Final: m.final, Tail: lists(m.tail)}
	for _, out := range m.out {
		s.Out = append(s.Out, lists(out))
	}
	return s
}

// classes numbers the states of a machine whose outputs are as early as possible, such that two have the same number exactly if they have the same outputs for all words.
func (m machine) classes(t *texts) []int {
	writing := m.writing(t)
	class := make([]int, len(m.next))
	var key []byte
	for before := 0; ; {
		numbers := map[string]int{}
		finer := make([]int, len(class))
		for p, row := range m.next {
			// Both numbers are less than MaxStates.
			key = append(key[:0], byte(writing[p]), byte(writing[p]>>8))
			for _, to := range row {
				if to != noStep {
					key = append(key, byte(class[to]), byte(class[to]>>8))
				}
			}
			finer[p] = number(numbers, string(key))
		}
		if len(numbers) == before {
			return class
		}
		class, before = finer, len(numbers)
	}
}

// writing numbers the states of a machine, such that two have the same number exactly if they have steps by the same symbols, and these, and the ends of words, write the same.
func (m machine) writing(t *texts) []int {
	numbers := map[string]int{}
	l := make([]int, len(m.next))
	for p, row := range m.next {
		var key []int
		add := func(exists bool, w word) {
			if exists {
				key = t.appendKey(key, w)
			} else {
				key = append(key, noStep)
			}
		}
		add(m.final[p], m.tail[p])
		for symbol, to := range row {
			add(to != noStep, m.out[p][symbol])
		}
		l[p] = number(numbers, string(wire.Ints(key)))
	}
	return l
}

// number returns the number of a key: the next one, if it has none yet.
func number[K comparable](numbers map[K]int, key K) int {
	n, known := numbers[key]
	if !known {
		n = len(numbers)
		numbers[key] = n
	}
	return n
}

// merged returns a machine with one state for each class of states that is reached from the start, in the order of a breadth-first search.
func (m machine) merged(class []int) machine {
	j := machine{head: m.head}
	numbers := map[int]int{}
	var states []int
	reach := func(p int) int {
		if p == noStep {
			return noStep
		}
		n := number(numbers, class[p])
		if n == len(states) {
			states = append(states, p)
		}
		return n
	}
	reach(0)
	for i := 0; i < len(states); i++ {
		p := states[i]
		var next []int
		for _, to := range m.next[p] {
			next = append(next, reach(to))
		}
		j.next, j.out = append(j.next, next), append(j.out, m.out[p])
		j.final, j.tail = append(j.final, m.final[p]), append(j.tail, m.tail[p])
	}
	return j
}
