package subseq

import (
	"math/bits"
	"slices"
)

// A text is a list of symbols: its first one, and the text behind it, which several texts can share. The text 0 is empty.
type text int32

// A word is the beginning of a text, of as many symbols as its length says.
type word struct {
	text   text
	length int
}

// A name tells a list of symbols from all other ones of the same length. A single symbol is its own name.
type name int32

// A block is the name of the first symbols of a text, with the text behind them.
type block struct {
	name   name
	behind text
}

// texts keeps texts and names their blocks. Outputs can agree in very many symbols, again and again: by the names of long blocks they are compared without going through all of these symbols each time.
type texts struct {
	// levels[k] are the blocks of the first 2^k symbols of the texts; levels[0] are the texts themselves. At other levels, those that nobody has asked for have the name 0.
	levels [][]block
	// names are those of blocks of several symbols, by the names of their two halves.
	names map[[2]name]name
}

func newTexts() *texts {
	return &texts{levels: [][]block{{{}}}, names: map[[2]name]name{}}
}

// size returns how many texts there are.
func (t *texts) size() int {
	return len(t.levels[0])
}

// cut forgets all texts but the oldest ones, as many as given.
func (t *texts) cut(size int) {
	for k, level := range t.levels {
		t.levels[k] = level[:min(size, len(level))]
	}
}

// cutAround does what cut does, and returns a word that is not forgotten.
func (t *texts) cutAround(w word, size int) word {
	var newer []int
	for w.length > 0 && int(w.text) >= size {
		b := t.levels[0][w.text]
		newer = append(newer, int(b.name))
		w = word{b.behind, w.length - 1}
	}
	t.cut(size)
	return t.list(newer, w)
}

// before returns the word of a symbol and another word behind it.
func (t *texts) before(symbol int, w word) word {
	t.levels[0] = append(t.levels[0], block{name(symbol), w.text})
	return word{text(t.size() - 1), w.length + 1}
}

// list returns the word of some symbols and another word behind them.
func (t *texts) list(symbols []int, w word) word {
	for _, symbol := range slices.Backward(symbols) {
		w = t.before(symbol, w)
	}
	return w
}

// block returns the block of the first 2^k symbols of a text, which must have so many.
func (t *texts) block(of text, k int) block {
	for len(t.levels) <= k {
		t.levels = append(t.levels, nil)
	}
	if missing := int(of) + 1 - len(t.levels[k]); missing > 0 {
		t.levels[k] = append(t.levels[k], make([]block, missing)...)
	}
	if k > 0 && t.levels[k][of].name == 0 {
		first := t.block(of, k-1)
		second := t.block(first.behind, k-1)
		t.levels[k][of] = block{t.whole([2]name{first.name, second.name}), second.behind}
	}
	return t.levels[k][of]
}

// whole returns the name of the block of two halves.
func (t *texts) whole(halves [2]name) name {
	n, known := t.names[halves]
	if !known {
		n = name(1 + len(t.names))
		t.names[halves] = n
	}
	return n
}

// blocks calls visit for the blocks of which a word consists, one of each length, the longest one first.
func (t *texts) blocks(w word, visit func(b block)) {
	for k := bits.Len(uint(w.length)) - 1; k >= 0; k-- {
		if w.length&(1<<k) != 0 {
			b := t.block(w.text, k)
			visit(b)
			w.text = b.behind
		}
	}
}

// appendKey appends a list that tells a word from all others: its length, and the names of the blocks of which a word of this length always consists.
func (t *texts) appendKey(key []int, w word) []int {
	key = append(key, w.length)
	t.blocks(w, func(b block) { key = append(key, int(b.name)) })
	return key
}

// without returns a word without its first symbols, as many as given.
func (t *texts) without(w word, first int) word {
	rest := w.text
	t.blocks(word{w.text, first}, func(b block) { rest = b.behind })
	return word{rest, w.length - first}
}

// last returns the last symbol of a word, which must have one.
func (t *texts) last(w word) int {
	return t.symbols(t.without(w, w.length-1))[0]
}

// agree returns the number of symbols in which two words agree from their beginnings on.
func (t *texts) agree(v, w word) int {
	n, most := 0, min(v.length, w.length)
	// The blocks that are compared become longer until two of them differ, so that no longer ones are named than are needed, and then shorter.
	for k, longer := 0, 1; k >= 0; k += longer {
		if v.text == w.text {
			return most
		}
		if n+1<<k > most {
			longer = -1
			continue
		}
		a, b := t.block(v.text, k), t.block(w.text, k)
		if a.name != b.name {
			longer = -1
			continue
		}
		n += 1 << k
		v.text, w.text = a.behind, b.behind
	}
	return n
}

// same reports whether two words are equal.
func (t *texts) same(v, w word) bool {
	return v.length == w.length && t.agree(v, w) == v.length
}

// symbols returns the symbols of a word.
func (t *texts) symbols(w word) []int {
	if w.length == 0 {
		return nil
	}
	l := make([]int, w.length)
	for i := range l {
		b := t.levels[0][w.text]
		l[i], w.text = int(b.name), b.behind
	}
	return l
}
