package regex

import (
	"slices"
	"strings"

	"wordbook/alphabet"
	"wordbook/api"
)

// Kinds of tokens. Each of the marks | * ? ( and ) is its own kind.
const (
	noToken   = iota
	endToken  // nothing is left
	atomToken // an expression: a letter, a dot, a boundary, an edge or a name
)

// A token of a pattern, and the offset at which it stands.
type token struct {
	kind byte
	at   int
	atom api.Regex
}

// Parse reads a pattern, and returns the normal form of its expression and -1, or RxNone and the offset of the first error.
func Parse(s string, a []api.Letter, sets []api.Set) (api.Regex, int) {
	if !alphabet.Valid(a) {
		return api.Regex{}, 0
	}
	if len(s) > api.MaxText {
		return api.Regex{}, api.MaxText
	}
	p := parser{next: tokens(s, a, sets)}
	p.advance()
	r := p.alternatives()
	if p.token.kind != endToken {
		return api.Regex{}, p.token.at
	}
	return Simple(r), -1
}

// tokens returns a function that returns the tokens of a pattern one by one.
func tokens(s string, a []api.Letter, sets []api.Set) func() token {
	at := 0
	return func() token {
		t, size := firstToken(s[at:], a, sets)
		t.at = at
		at += size
		return t
	}
}

// firstToken returns the token with which a text begins, and the number of its bytes.
func firstToken(s string, a []api.Letter, sets []api.Set) (token, int) {
	if s == "" {
		return token{kind: endToken}, 0
	}
	switch s[0] {
	case '|', '*', '?', '(', ')':
		return token{kind: s[0]}, 1
	case '.':
		return anyOf(symbolsOf(1<<len(a) - 1)), 1
	case '-':
		return anyOf([]int{api.Plus}), 1
	case '#':
		return anyOf([]int{api.WordEdge}), 1
	case '{':
		return firstName(s, sets)
	}
	return firstLetter(s, a)
}

// anyOf returns the token that stands for a set.
func anyOf(symbols []int) token {
	return token{kind: atomToken, atom: api.Regex{Kind: api.RxSet, Symbols: symbols}}
}

// firstName is firstToken for a text that begins with a brace.
func firstName(s string, sets []api.Set) (token, int) {
	size := strings.IndexByte(s, '}') + 1
	switch size {
	case 0:
		return token{}, 0
	case len("{}"):
		return token{kind: atomToken}, size
	}
	name := s[1 : size-1]
	i := slices.IndexFunc(sets, func(x api.Set) bool { return x.Name == name })
	if i < 0 || !validSymbols(sets[i].Symbols) {
		return token{}, 0
	}
	return anyOf(sets[i].Symbols), size
}

// firstLetter is firstToken for a text that begins with a letter: the longest one that stands there.
func firstLetter(s string, a []api.Letter) (token, int) {
	letter, size := 0, 0
	for n, l := range a {
		if len(l.Text) > size && strings.HasPrefix(s, l.Text) {
			letter, size = n, len(l.Text)
		}
	}
	if size == 0 {
		return token{}, 0
	}
	return anyOf([]int{letter}), size
}

// A parser reads the tokens of a pattern. Where one cannot stand, all of its methods leave it there.
type parser struct {
	next  func() token
	token token
}

// advance goes on to the next token.
func (p *parser) advance() {
	p.token = p.next()
}

// alternatives reads sequences with bars between them.
func (p *parser) alternatives() api.Regex {
	kids := []api.Regex{p.sequence()}
	for p.token.kind == '|' {
		p.advance()
		kids = append(kids, p.sequence())
	}
	return api.Regex{Kind: api.RxAlt, Kids: kids}
}

// sequence reads any number of atoms with the marks behind them.
func (p *parser) sequence() api.Regex {
	var kids []api.Regex
	for p.token.kind == atomToken || p.token.kind == '(' {
		kids = append(kids, p.repeated())
	}
	return api.Regex{Kind: api.RxSeq, Kids: kids}
}

// repeated reads an atom and the marks behind it.
func (p *parser) repeated() api.Regex {
	r := p.atom()
	for {
		switch p.token.kind {
		case '*':
			r = api.Regex{Kind: api.RxStar, Kids: []api.Regex{r}}
		case '?':
			r = api.Regex{Kind: api.RxAlt, Kids: []api.Regex{{Kind: api.RxEmpty}, r}}
		default:
			return r
		}
		p.advance()
	}
}

// atom reads an atom or alternatives in parentheses.
func (p *parser) atom() api.Regex {
	if p.token.kind == atomToken {
		r := p.token.atom
		p.advance()
		return r
	}
	p.advance()
	r := p.alternatives()
	if p.token.kind != ')' {
		// No caller takes this for a token of its own, so that the error stays where it is.
		p.token.kind = noToken
		return r
	}
	p.advance()
	return r
}

// Print returns a pattern for the normal form of an expression.
func Print(r api.Regex, a []api.Letter) string {
	if !Valid(r) || !alphabet.Valid(a) {
		return ""
	}
	p := printer{letters: a}
	p.expression(normal(r))
	if p.failed {
		return ""
	}
	return string(p.text)
}

// A printer writes a pattern. It has failed if a symbol cannot stand in one.
type printer struct {
	letters []api.Letter
	text    []byte
	failed  bool
}

// mark writes a byte.
func (p *printer) mark(b byte) {
	p.text = append(p.text, b)
}

// expression writes a normal form.
func (p *printer) expression(x api.Regex) {
	switch x.Kind {
	case api.RxNone:
		p.text = append(p.text, "{}"...)
	case api.RxSet:
		p.set(x.Symbols)
	case api.RxSeq:
		p.sequence(x.Kids)
	case api.RxAlt:
		p.alternatives(x.Kids)
	case api.RxStar:
		p.kid(x.Kids[0], x.Kids[0].Kind == api.RxAlt || x.Kids[0].Kind == api.RxSeq)
		p.mark('*')
	}
}

// kid writes a kid of an expression, in parentheses if asked for.
func (p *printer) kid(x api.Regex, parentheses bool) {
	if !parentheses {
		p.expression(x)
		return
	}
	p.mark('(')
	p.expression(x)
	p.mark(')')
}

// alternatives writes expressions with bars between them.
func (p *printer) alternatives(kids []api.Regex) {
	for i, k := range kids {
		if i > 0 {
			p.mark('|')
		}
		p.expression(k)
	}
}

// sequence writes expressions one after the other.
func (p *printer) sequence(kids []api.Regex) {
	for i, k := range kids {
		// Behind such a letter, the text of another one could be read as a part of a longer letter.
		apart := i > 0 && p.beginsLonger(kids[i-1])
		if apart && k.Kind == api.RxStar && p.isLetter(k.Kids[0]) {
			p.kid(k.Kids[0], true)
			p.mark('*')
			continue
		}
		p.kid(k, k.Kind == api.RxAlt || apart && p.isLetter(k))
	}
}

// isLetter reports whether an expression is the set of one letter.
func (p *printer) isLetter(x api.Regex) bool {
	return len(x.Symbols) == 1 && x.Symbols[0] < len(p.letters)
}

// beginsLonger reports whether an expression is the set of one letter whose text is a proper beginning of that of another one.
func (p *printer) beginsLonger(x api.Regex) bool {
	if !p.isLetter(x) {
		return false
	}
	text := p.letters[x.Symbols[0]].Text
	return slices.ContainsFunc(p.letters, func(l api.Letter) bool {
		return len(l.Text) > len(text) && strings.HasPrefix(l.Text, text)
	})
}

// set writes a set.
func (p *printer) set(symbols []int) {
	size := len(symbols)
	switch {
	case size == 1:
		p.symbol(symbols[0])
	case size == len(p.letters) && symbols[size-1] == size-1:
		p.mark('.')
	default:
		p.mark('(')
		for i, n := range symbols {
			if i > 0 {
				p.mark('|')
			}
			p.symbol(n)
		}
		p.mark(')')
	}
}

// symbol writes a symbol.
func (p *printer) symbol(n int) {
	switch {
	case n < len(p.letters):
		p.text = append(p.text, p.letters[n].Text...)
	case n == api.WordEdge:
		p.mark('#')
	case n == api.Plus:
		p.mark('-')
	default:
		p.failed = true
	}
}
