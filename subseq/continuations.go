package subseq

import "wordbook/api"

// continuations are what a transducer can write from each of its states on, up to the end of a word.
type continuations struct {
	s     api.Sub
	texts *texts
	into  [][]step // of each state: the steps to it
	ends  []bool   // of each state: whether it has a continuation
	some  []word   // of each state: one of its continuations, that without a step, if it is final
	by    [][]word // of each step: one that begins with it
}

// A step is that from a state by a symbol.
type step struct{ from, symbol int }

// continuationsOf returns the continuations of a valid transducer.
func continuationsOf(t *texts, s api.Sub) continuations {
	states := len(s.Next)
	c := continuations{s: s, texts: t, into: make([][]step, states), ends: make([]bool, states), some: make([]word, states), by: make([][]word, states)}
	for p, row := range s.Next {
		c.by[p] = make([]word, s.Size)
		for symbol, to := range row {
			if to != noStep {
				c.into[to] = append(c.into[to], step{p, symbol})
			}
		}
	}
	var todo []int
	reach := func(p int, by word) {
		if !c.ends[p] {
			c.ends[p], c.some[p] = true, by
			todo = append(todo, p)
		}
	}
	for p, final := range s.Final {
		if final {
			reach(p, t.list(s.Tail[p], word{}))
		}
	}
	for i := 0; i < len(todo); i++ {
		to := todo[i]
		for _, x := range c.into[to] {
			by := t.list(s.Out[x.from][x.symbol], c.some[to])
			c.by[x.from][x.symbol] = by
			reach(x.from, by)
		}
	}
	return c
}

// leads reports whether there are continuations behind a step to a state.
func (c continuations) leads(to int) bool {
	return to != noStep && c.ends[to]
}

// agreeing returns in how many symbols the known continuations of a state agree.
func (c continuations) agreeing(p int) int {
	n := c.some[p].length
	for symbol, to := range c.s.Next[p] {
		if c.leads(to) {
			n = min(n, c.texts.agree(c.some[p], c.by[p][symbol]))
		}
	}
	return n
}

// common returns, for each state, in how many symbols all of its continuations agree. These are at most so many as the known ones agree in, and for each step at most what it writes, and what all continuations behind it agree in. So they are lengths of shortest ways.
func (c continuations) common() []int {
	length := make([]int, len(c.ends))
	var open []int
	for p, ends := range c.ends {
		if ends {
			length[p] = c.agreeing(p)
			open = append(open, p)
		}
	}
	for len(open) > 0 {
		least := 0
		for i, p := range open {
			if length[p] < length[open[least]] {
				least = i
			}
		}
		to := open[least]
		open[least] = open[len(open)-1]
		open = open[:len(open)-1]
		for _, x := range c.into[to] {
			length[x.from] = min(length[x.from], len(c.s.Out[x.from][x.symbol])+length[to])
		}
	}
	return length
}

// early returns the machine that writes at once what all continuations of a state agree in, before it gets there. The start must have a continuation.
func (c continuations) early() machine {
	length := c.common()
	m := machine{head: c.texts.list(c.s.Head, word{c.some[0].text, length[0]}), final: c.s.Final}
	for p, row := range c.s.Next {
		next, out := make([]int, len(row)), make([]word, len(row))
		for symbol, to := range row {
			next[symbol] = noStep
			if c.leads(to) {
				written := word{c.by[p][symbol].text, len(c.s.Out[p][symbol]) + length[to]}
				next[symbol], out[symbol] = to, c.texts.without(written, length[p])
			}
		}
		var tail word
		if c.s.Final[p] {
			tail = c.texts.without(c.some[p], length[p])
		}
		m.next, m.out, m.tail = append(m.next, next), append(m.out, out), append(m.tail, tail)
	}
	return m
}
