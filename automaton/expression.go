package automaton

import (
	"math/bits"

	"wordbook/api"
	"wordbook/regex"
)

// Of returns the canonical automaton of the words of an expression.
func Of(r api.Regex, size int) (api.DFA, api.Errno) {
	if !regex.Valid(r) || !validSize(size) {
		return api.DFA{}, api.ErrArg
	}
	// The search asks for all that follows from a state at once.
	at, now := "", derivatives{}
	look := func(text string) derivatives {
		if text != at {
			at, now = text, derive(decoded(text), size)
		}
		return now
	}
	step := func(text string, symbol int) string { return look(text).by[symbol] }
	final := func(text string) bool { return look(text).empty }
	return limited(search(size, api.MaxStates, encoded(regex.Simple(r)), step, final))
}

// derivatives are the texts of the derivatives of an expression by each symbol, and whether it has the empty word.
type derivatives struct {
	by    []string
	empty bool
}

// derive returns the derivatives of a normal form by the symbols from 0 to size-1.
func derive(x api.Regex, size int) derivatives {
	sets, empty := firsts(nil, x)
	by := make([]string, size)
	for _, alike := range divided(1<<size-1, sets) {
		text := encoded(regex.Derive(x, bits.TrailingZeros64(alike)))
		for ; alike != 0; alike &= alike - 1 {
			by[bits.TrailingZeros64(alike)] = text
		}
	}
	return derivatives{by, empty}
}

// firsts appends the sets of an expression that its derivatives depend on, those with a first symbol of a word, and reports whether it has the empty word.
func firsts(l []uint64, x api.Regex) ([]uint64, bool) {
	empty := false
	switch x.Kind {
	case api.RxEmpty:
		empty = true
	case api.RxSet:
		l = append(l, setOf(x.Symbols))
	case api.RxSeq:
		empty = true
		for i := 0; i < len(x.Kids) && empty; i++ {
			l, empty = firsts(l, x.Kids[i])
		}
	case api.RxAlt:
		for _, k := range x.Kids {
			var one bool
			l, one = firsts(l, k)
			empty = empty || one
		}
	case api.RxStar:
		l, _ = firsts(l, x.Kids[0])
		empty = true
	}
	return l, empty
}

// divided divides a set of symbols into sets of those that are in the same ones of some sets.
func divided(all uint64, sets []uint64) []uint64 {
	parts := []uint64{all}
	for _, set := range sets {
		for i, part := range parts {
			if in, out := part&set, part&^set; in != 0 && out != 0 {
				parts[i] = in
				parts = append(parts, out)
			}
		}
	}
	return parts
}

// setOf returns symbols as the bits of a number.
func setOf(symbols []int) uint64 {
	var set uint64
	for _, n := range symbols {
		set |= 1 << n
	}
	return set
}

// In the text of an expression, each symbol is a byte from symbolByte on, and endByte stands behind the last kid: neither is a kind.
const (
	symbolByte = 64
	endByte    = 63
)

// encoded returns the text of a valid expression: expressions, unlike their texts, cannot be numbered in a map.
func encoded(x api.Regex) string {
	return string(appendText(nil, x))
}

// appendText appends the text of an expression.
func appendText(b []byte, x api.Regex) []byte {
	b = append(b, byte(x.Kind))
	for _, n := range x.Symbols {
		b = append(b, symbolByte+byte(n))
	}
	for _, k := range x.Kids {
		b = appendText(b, k)
	}
	return append(b, endByte)
}

// decoded returns the expression of a text.
func decoded(text string) api.Regex {
	x, _ := firstOf(text)
	return x
}

// firstOf returns the expression with whose text a text begins, and the rest of it.
func firstOf(text string) (api.Regex, string) {
	x := api.Regex{Kind: int(text[0])}
	text = text[1:]
	for ; text[0] >= symbolByte; text = text[1:] {
		x.Symbols = append(x.Symbols, int(text[0]-symbolByte))
	}
	for text[0] != endByte {
		var k api.Regex
		k, text = firstOf(text)
		x.Kids = append(x.Kids, k)
	}
	return x, text[1:]
}
