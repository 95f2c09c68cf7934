package regex_test

import (
	"math"
	"math/rand"
	"reflect"
	"slices"
	"strings"
	"testing"

	"wordbook/alphabet"
	"wordbook/api"
	"wordbook/regex"
)

// plain is an alphabet of letters that are their own bases.
func plain(texts ...string) []api.Letter {
	var a []api.Letter
	for i, text := range texts {
		a = append(a, api.Letter{Text: text, Base: i, Width: 5})
	}
	return a
}

func abc() []api.Letter {
	return plain("a", "b", "c")
}

// long is an alphabet in which many texts are beginnings of others.
func long() []api.Letter {
	return plain("s", "c", "h", "ch", "sch", "a", "ä", "\xc3", "chs")
}

// many is an alphabet of n letters.
func many(n int) []api.Letter {
	var texts []string
	for i := range n {
		texts = append(texts, string([]byte{byte('A' + i%26), byte('a' + i/26)}))
	}
	return plain(texts...)
}

// notAlphabets are alphabets that are not valid.
func notAlphabets(t *testing.T) [][]api.Letter {
	l := [][]api.Letter{nil, {}, many(61), plain("a", "a"), plain("a", ""), plain("a", "b", "c", "toolong"), plain("a", "b", "("), plain("a", "b", "c", "1")}
	for _, f := range []func(*api.Letter){
		func(l *api.Letter) { l.Base = 3 },
		func(l *api.Letter) { l.Base = math.MinInt },
		func(l *api.Letter) { l.Mark = 1 },
		func(l *api.Letter) { l.Case = 1 },
		func(l *api.Letter) { l.Width = 0 },
	} {
		a := abc()
		f(&a[1])
		l = append(l, a)
	}
	for _, a := range l {
		if alphabet.Valid(a) {
			t.Fatal("valid:", a)
		}
	}
	return l
}

// named are sets, of which some cannot be used.
func named() []api.Set {
	return []api.Set{
		{Name: "", Symbols: []int{1}},
		{Name: "v", Symbols: []int{0, 2}},
		{Name: "v", Symbols: []int{1}},
		{Name: "all", Symbols: []int{0, 1, 2, 60, 61, 62, 63}},
		{Name: "{", Symbols: []int{1}},
		{Name: "(a|b\n", Symbols: []int{2}},
		{Name: "ä", Symbols: []int{63}},
		{Name: "none"},
		{Name: "none", Symbols: []int{1}},
		{Name: "twice", Symbols: []int{1, 1}},
		{Name: "back", Symbols: []int{2, 1}},
		{Name: "less", Symbols: []int{-1, 1}},
		{Name: "more", Symbols: []int{1, 64}},
	}
}

// marksBy reads a pattern as the chapter defines it. It keeps the parts of all parentheses that are open: for each of them, what is before the last bar, and what is behind it.
func marksBy(s string, a []api.Letter, sets []api.Set) (api.Regex, int) {
	type part struct{ before, behind []api.Regex }
	open := []part{{}}
	for at := 0; at < len(s); {
		last := &open[len(open)-1]
		top := len(last.behind) - 1
		switch s[at] {
		case '*', '?':
			if top < 0 {
				return none, at
			}
			if s[at] == '*' {
				last.behind[top] = star(last.behind[top])
			} else {
				last.behind[top] = maybe(last.behind[top])
			}
			at++
		case '|':
			last.before, last.behind = append(last.before, seq(last.behind...)), nil
			at++
		case '(':
			open = append(open, part{})
			at++
		case ')':
			if len(open) == 1 {
				return none, at
			}
			whole := alt(append(last.before, seq(last.behind...))...)
			open = open[:len(open)-1]
			last = &open[len(open)-1]
			last.behind = append(last.behind, whole)
			at++
		default:
			r, size := atomBy(s[at:], a, sets)
			if size == 0 {
				return none, at
			}
			last.behind = append(last.behind, r)
			at += size
		}
	}
	if len(open) > 1 {
		return none, len(s)
	}
	return simpleBy(alt(append(open[0].before, seq(open[0].behind...))...)), -1
}

// atomBy reads an atom that is not in parentheses, and returns the number of its bytes; 0, if there is none.
func atomBy(s string, a []api.Letter, sets []api.Set) (api.Regex, int) {
	switch {
	case s[0] == '.':
		l := set()
		for n := range a {
			l.Symbols = append(l.Symbols, n)
		}
		return l, 1
	case s[0] == '-':
		return set(63), 1
	case s[0] == '#':
		return set(62), 1
	case strings.HasPrefix(s, "{}"):
		return none, 2
	case s[0] == '{' && strings.Contains(s, "}"):
		name, _, _ := strings.Cut(s[1:], "}")
		for _, x := range sets {
			if x.Name == name {
				if r := set(x.Symbols...); validBy(r) {
					return r, len(name) + 2
				}
				break
			}
		}
		return none, 0
	}
	for size := 4; size > 0; size-- {
		for n, l := range a {
			if len(l.Text) == size && strings.HasPrefix(s, l.Text) {
				return set(n), size
			}
		}
	}
	return none, 0
}

func TestParse(t *testing.T) {
	a, b, c := set(0), set(1), set(2)
	for _, x := range []struct {
		s    string
		a    []api.Letter
		want api.Regex
	}{
		{"a(b|c)*", abc(), seq(a, star(set(1, 2)))},
		{"", abc(), empty}, {"()", abc(), empty}, {"|", abc(), empty}, {"(|)|()()", abc(), empty}, {"()*", abc(), empty}, {"()?", abc(), empty}, {"{}", abc(), none}, {"a{}", abc(), none}, {"a|{}", abc(), a}, {"{}*", abc(), empty}, {"{}?", abc(), empty},
		{"a", abc(), a}, {"abc", abc(), seq(a, b, c)}, {"a|b", abc(), set(0, 1)}, {"b|a|b", abc(), set(0, 1)}, {"ab|c", abc(), alt(c, seq(a, b))}, {"a|bc|", abc(), alt(empty, a, seq(b, c))}, {"|ab", abc(), alt(empty, seq(a, b))}, {"a||b", abc(), alt(empty, set(0, 1))},
		{"a*", abc(), star(a)}, {"ab*", abc(), seq(a, star(b))}, {"(ab)*", abc(), star(seq(a, b))}, {"a**", abc(), star(a)}, {"a?", abc(), alt(empty, a)}, {"a??", abc(), alt(empty, a)}, {"a?*", abc(), star(a)}, {"a*?", abc(), star(a)}, {"ab?", abc(), seq(a, alt(empty, b))}, {"(ab|c)?", abc(), alt(empty, c, seq(a, b))},
		{"((((a))))", abc(), a}, {"(a(b(c)))", abc(), seq(a, b, c)}, {"(a|b)(b|c)", abc(), seq(set(0, 1), set(1, 2))}, {"(a)*(b)?", abc(), seq(star(a), alt(empty, b))},
		{".", abc(), set(0, 1, 2)}, {".", plain("x"), set(0)}, {".*", abc(), star(set(0, 1, 2))}, {".|-|#", abc(), set(0, 1, 2, 62, 63)}, {"-", abc(), set(63)}, {"#", abc(), set(62)}, {"#a-b#", abc(), seq(set(62), a, set(63), b, set(62))}, {"--", abc(), seq(set(63), set(63))},
		{"{v}", abc(), set(0, 2)}, {"{v}*b", abc(), seq(star(set(0, 2)), b)}, {"{all}", abc(), set(0, 1, 2, 60, 61, 62, 63)}, {"{{}", abc(), b}, {"{(a|b\n}", abc(), c}, {"{ä}", abc(), set(63)}, {"{v}{v}", abc(), seq(set(0, 2), set(0, 2))}, {"{v}|b", abc(), set(0, 1, 2)}, {"{}b|{v}", abc(), set(0, 2)}, {"{v}v", plain("v"), seq(set(0, 2), a)},
		{"sch", long(), set(4)}, {"chs", long(), set(8)}, {"chch", long(), seq(set(3), set(3))}, {"c(h)", long(), seq(set(1), set(2))}, {"c*h", long(), seq(star(set(1)), set(2))}, {"ch*", long(), star(set(3))}, {"c(h)*", long(), seq(set(1), star(set(2)))}, {"sc(h)", long(), seq(set(0), set(1), set(2))}, {"schsch", long(), seq(set(4), set(4))}, {"(s)ch", long(), seq(set(0), set(3))}, {"s|ch", long(), set(0, 3)}, {"ää", long(), seq(set(6), set(6))}, {"\xc3a", long(), seq(set(7), set(5))}, {"asca", long(), seq(set(5), set(0), set(1), set(5))},
		{"{}a|", abc(), empty}, {strings.Repeat("(", 500) + "a" + strings.Repeat(")", 500), abc(), a}, {"a" + strings.Repeat("*", 1023), abc(), star(a)}, {"a" + strings.Repeat("?", 1023), abc(), alt(empty, a)}, {strings.Repeat("|", 1024), abc(), empty}, {strings.Repeat("a|b|", 256), abc(), alt(empty, set(0, 1))},
	} {
		if got, at := regex.Parse(x.s, x.a, named()); at != -1 || !reflect.DeepEqual(got, x.want) {
			t.Errorf("P7.5: Parse(%q) returns %v and %d, want %v", x.s, got, at, x.want)
		}
	}
	if got, at := regex.Parse(strings.Repeat("a", 1024), abc(), nil); at != -1 || len(got.Kids) != 1024 || got.Kind != api.RxSeq {
		t.Error("P7.5: 1024 letters are not read, but", at)
	}
	sixty := make([]int, 60)
	for n := range sixty {
		sixty[n] = n
	}
	if got, at := regex.Parse(".", many(60), nil); at != -1 || !reflect.DeepEqual(got, set(sixty...)) {
		t.Error("P7.5: of 60 letters, the dot is", got, at)
	}
}

func TestWrongPatterns(t *testing.T) {
	for _, x := range []struct {
		s  string
		at int
	}{
		{"a)", 1}, {"(a", 2}, {"a*b|*", 4},
		{"*", 0}, {"?", 0}, {")", 0}, {"}", 0}, {"*a", 0}, {"a|?b", 2}, {"(*a)", 1}, {"(?)", 1}, {"(a|*)", 3}, {"|*", 1}, {"()*)", 3}, {"(a))", 3}, {"a)b)", 1}, {"(a|b))(", 5},
		{"(", 1}, {"((", 2}, {"(()", 3}, {"(a|", 3}, {"a(b|(c)*", 8}, {"(a*", 3}, {"((a)", 4}, {"()(", 3}, {"(a|b", 4}, {"a|(", 3},
		{"x", 0}, {"abx", 2}, {"a x", 1}, {"a b", 1}, {" ", 0}, {"a\n", 1}, {"a*1", 2}, {"a|B", 2}, {"(x", 1}, {"(ax)", 2}, {"a*|x*", 3}, {"(a|x", 3}, {"a\x00", 1}, {"aä", 1}, {"a+", 1}, {"a,b", 1}, {"a>b", 1}, {"a}", 1}, {"[a]", 0}, {"x)", 0}, {")x", 0}, {"ax*)", 1}, {"(a*x", 3},
		{"{", 0}, {"a{", 1}, {"a{v", 1}, {"(a{v)", 2}, {"{v}{v", 3}, {"{w}", 0}, {"a{w}*", 1}, {"{V}", 0}, {"{v }", 0}, {"{ v}", 0}, {"{vv}", 0}, {"{a}", 0}, {"{v}}", 3}, {"({v}", 4}, {"{v}*{x}*", 4}, {"(a|{x}", 3}, {"{{v}}", 0}, {"{}{", 2}, {"{}}", 2},
		{"{none}", 0}, {"ab{twice}", 2}, {"{back}*", 0}, {"a|{less}", 2}, {"({more})", 1}, {"{v}({none}", 4},
		{strings.Repeat("(", 1024), 1024}, {strings.Repeat("a", 1023) + ")", 1023}, {strings.Repeat("a", 1023) + "(", 1024}, {strings.Repeat("a", 1023) + "x", 1023}, {strings.Repeat("(", 1023) + "*", 1023},
		{strings.Repeat("a", 1025), 1024}, {strings.Repeat(")", 1025), 1024}, {strings.Repeat("x", 5000), 1024}, {strings.Repeat("|", 1<<20), 1024}, {"{" + strings.Repeat("v", 1023) + "}", 1024},
	} {
		if got, at := regex.Parse(x.s, abc(), named()); at != x.at || !reflect.DeepEqual(got, none) {
			t.Errorf("P7.5: Parse(%.20q) returns %v and %d, want %d", x.s, got, at, x.at)
		}
	}
	for _, x := range []struct {
		s  string
		at int
	}{{"chx", 2}, {"sch)", 3}, {"(chs", 4}, {"schb", 3}, {"ch*chs*|*", 8}, {"ä\xa4", 2}, {"äx", 2}, {"schh)", 4}, {"{v}", 0}, {"{}{v}", 2}} {
		if got, at := regex.Parse(x.s, long(), nil); at != x.at || !reflect.DeepEqual(got, none) {
			t.Errorf("P7.5: Parse(%q) returns %v and %d, want %d", x.s, got, at, x.at)
		}
	}
	for _, a := range notAlphabets(t) {
		for _, s := range []string{"", "a", "a(b|c)*", "{}", "a)", "ab*|*", strings.Repeat("a", 1025)} {
			if got, at := regex.Parse(s, a, named()); at != 0 || !reflect.DeepEqual(got, none) {
				t.Errorf("P7.5: with %v, Parse(%.20q) returns %v and %d", a, s, got, at)
			}
		}
		for _, r := range []api.Regex{none, empty, set(0), star(set(63))} {
			if s := regex.Print(r, a); s != "" {
				t.Errorf("P7.6: with %v, Print(%v) = %q", a, r, s)
			}
		}
	}
}

// TestShortPatterns parses all texts of up to 5 of some bytes.
func TestShortPatterns(t *testing.T) {
	bytes := "ab|*?().-#{}"
	a := plain("b", "a", "ab")
	sets := []api.Set{{Name: "a", Symbols: []int{0, 2}}, {Name: "b"}, {Name: "b", Symbols: []int{1}}, {Name: "", Symbols: []int{1}}, {Name: "{", Symbols: []int{62}}}
	var results [2]int
	var try func(s string, more int)
	try = func(s string, more int) {
		got, at := regex.Parse(s, a, sets)
		if want, end := marksBy(s, a, sets); at != end || !same(got, want) {
			t.Fatalf("P7.5: Parse(%q) returns %v and %d, want %v and %d", s, got, at, want, end)
		}
		results[min(at+1, 1)]++
		for i := range len(bytes) {
			if more > 0 {
				try(s+bytes[i:i+1], more-1)
			}
		}
	}
	try("", 5)
	if results[0] < 10000 || results[1] < 10000 {
		t.Error("these are patterns and not:", results)
	}
}

func TestRandomPatterns(t *testing.T) {
	r := rand.New(rand.NewSource(8))
	pieces := []string{"s", "c", "h", "ch", "sch", "a", "ä", "\xc3", "|", "|", "*", "?", "(", "(", "(", ")", ")", ")", ".", "-", "#", "{}", "{v}", "{all}"}
	rare := []string{"{", "}", "{none}", "{x}", "\xa4", " ", "x"}
	var results [2]int
	for range 50000 {
		s := ""
		for range r.Intn(16) {
			if r.Intn(80) == 0 {
				s += rare[r.Intn(len(rare))]
			}
			s += pieces[r.Intn(len(pieces))]
		}
		if r.Intn(2) == 0 { // close what is open
			s += strings.Repeat(")", max(0, strings.Count(s, "(")-strings.Count(s, ")")))
		}
		got, at := regex.Parse(s, long(), named())
		if want, end := marksBy(s, long(), named()); at != end || !reflect.DeepEqual(got, want) {
			t.Fatalf("P7.5: Parse(%q) returns %v and %d, want %v and %d", s, got, at, want, end)
		}
		results[min(at+1, 1)]++
	}
	if results[0] < 5000 || results[1] < 5000 {
		t.Error("these are patterns and not:", results)
	}
}

func TestPrint(t *testing.T) {
	a, b, c := set(0), set(1), set(2)
	for _, x := range []struct {
		r    api.Regex
		a    []api.Letter
		want string
	}{
		{seq(a, star(set(1, 2))), abc(), "a(b|c)*"},
		{none, abc(), "{}"}, {alt(), abc(), "{}"}, {seq(a, none), abc(), "{}"}, {empty, abc(), ""}, {seq(), abc(), ""}, {star(none), abc(), ""},
		{a, abc(), "a"}, {set(63), abc(), "-"}, {set(62), abc(), "#"}, {set(0, 1, 2), abc(), "."}, {set(0, 1), abc(), "(a|b)"}, {set(0, 1, 2, 63), abc(), "(a|b|c|-)"}, {set(62, 63), abc(), "(#|-)"}, {set(1, 62, 63), abc(), "(b|#|-)"}, {set(0, 1, 62), abc(), "(a|b|#)"}, {set(0), plain("x"), "x"}, {set(0, 63), plain("x"), "(x|-)"}, {set(0, 62), plain("x", "y"), "(x|#)"}, {set(0, 1), plain("x", "y"), "."}, {alt(b, c, a), abc(), "."},
		{star(a), abc(), "a*"}, {star(set(0, 1, 2)), abc(), ".*"}, {star(set(0, 2)), abc(), "(a|c)*"}, {star(set(62)), abc(), "#*"}, {star(star(a)), abc(), "a*"}, {star(seq(a, b)), abc(), "(ab)*"}, {star(alt(a, seq(b, c))), abc(), "(a|bc)*"}, {star(alt(seq(star(a), b), star(c))), abc(), "(a*b|c*)*"}, {star(seq(a, star(seq(b, c)))), abc(), "(a(bc)*)*"},
		{seq(a, b), abc(), "ab"}, {seq(a, seq(b, c)), abc(), "abc"}, {seq(a, maybe(b)), abc(), "a(|b)"}, {seq(maybe(a), b), abc(), "(|a)b"}, {seq(set(0, 1), set(0, 1, 2), set(63)), abc(), "(a|b).-"}, {seq(alt(a, seq(b, c)), alt(seq(a, b), star(c))), abc(), "(a|bc)(ab|c*)"}, {seq(set(62), a, set(63)), abc(), "#a-"},
		{maybe(a), abc(), "|a"}, {maybe(set(0, 1)), abc(), "|(a|b)"}, {alt(seq(b, c), empty, a), abc(), "|a|bc"}, {alt(seq(b, c), empty, a, star(b)), abc(), "a|bc|b*"}, {alt(set(0, 1), seq(a, b)), abc(), "(a|b)|ab"}, {alt(seq(b, alt(a, seq(a, a))), seq(a, a)), abc(), "aa|b(a|aa)"}, {alt(star(seq(b, a)), star(seq(a, b))), abc(), "(ab)*|(ba)*"},
		// Letters that begin others.
		{seq(set(1), set(2)), long(), "c(h)"}, {seq(set(0), set(1)), long(), "s(c)"}, {seq(set(0), set(1), set(2)), long(), "s(c)(h)"}, {seq(set(1), star(set(2))), long(), "c(h)*"}, {seq(star(set(1)), set(2)), long(), "c*h"}, {seq(set(3), set(0)), long(), "ch(s)"}, {seq(set(3), set(5)), long(), "ch(a)"}, {seq(set(4), set(0)), long(), "schs"}, {seq(set(2), set(1)), long(), "hc"}, {seq(set(6), set(7), set(6)), long(), "ä\xc3(ä)"}, {seq(set(5), set(1), set(5)), long(), "ac(a)"},
		{seq(set(1), set(63), set(2)), long(), "c-h"}, {seq(set(1), set(62)), long(), "c#"}, {seq(set(1), star(set(63))), long(), "c-*"}, {seq(set(1), set(2, 3)), long(), "c(h|ch)"}, {seq(set(1), star(set(2, 3))), long(), "c(h|ch)*"}, {seq(set(1), star(seq(set(2), set(1)))), long(), "c(hc)*"}, {seq(set(1), maybe(set(2))), long(), "c(|h)"}, {seq(set(1), set(0, 1, 2, 3, 4, 5, 6, 7, 8)), long(), "c."}, {seq(set(0, 1), set(2)), long(), "(s|c)h"},
		{alt(set(1), seq(set(1), set(2)), set(2)), long(), "(c|h)|c(h)"}, {star(seq(set(2), set(1), set(2))), long(), "(hc(h))*"}, {star(alt(seq(set(1), set(2)), empty, set(1))), long(), "(c|c(h))*"}, {seq(alt(set(5), seq(set(2), set(1))), set(2)), long(), "(a|hc)h"},
		{seq(set(0), set(1)), plain("a", "b", "ab"), "a(b)"}, {seq(set(0), set(0)), plain("a", "ax"), "a(a)"}, {seq(set(1), set(1)), plain("a", "ax"), "axax"}, {seq(set(0), set(0)), plain("a", "b"), "aa"},
		// Symbols that cannot be printed.
		{set(3), abc(), ""}, {set(60), abc(), ""}, {set(61), abc(), ""}, {set(0, 1, 2, 3), abc(), ""}, {set(0, 1, 61), abc(), ""}, {set(0, 1, 61, 62), abc(), ""}, {seq(a, set(3)), abc(), ""}, {star(set(59)), abc(), ""}, {alt(empty, seq(a, star(seq(b, set(61, 63))))), abc(), ""}, {set(1), plain("a"), ""}, {set(60), many(60), ""}, {set(59), many(60), "Hc"},
		// Symbols that are not in the normal form.
		{alt(a, seq(set(61), none)), abc(), "a"}, {seq(set(61), none), abc(), "{}"}, {seq(a, star(seq(set(3), none))), abc(), "a"},
	} {
		if got := regex.Print(x.r, x.a); got != x.want {
			t.Errorf("P7.6: Print(%v) = %q, want %q", x.r, got, x.want)
		}
	}
}

// printBy is a pattern for a normal form whose symbols can all be printed, as the chapter defines it.
func printBy(x api.Regex, a []api.Letter) string {
	switch x.Kind {
	case api.RxNone:
		return "{}"
	case api.RxSet:
		return setBy(x.Symbols, a)
	case api.RxStar:
		kid := printBy(x.Kids[0], a)
		if x.Kids[0].Kind == api.RxSeq || x.Kids[0].Kind == api.RxAlt {
			return "(" + kid + ")*"
		}
		return kid + "*"
	}
	var l []string
	for i, k := range x.Kids {
		text := printBy(k, a)
		if x.Kind == api.RxSeq && k.Kind == api.RxAlt || i > 0 && x.Kind == api.RxSeq && begins(x.Kids[i-1], a) && letter(k, a) {
			text = "(" + text + ")"
		}
		if i > 0 && x.Kind == api.RxSeq && begins(x.Kids[i-1], a) && k.Kind == api.RxStar && letter(k.Kids[0], a) {
			text = "(" + printBy(k.Kids[0], a) + ")*"
		}
		l = append(l, text)
	}
	if x.Kind == api.RxAlt {
		return strings.Join(l, "|")
	}
	return strings.Join(l, "")
}

func setBy(symbols []int, a []api.Letter) string {
	var l []string
	letters := 0
	for _, n := range symbols {
		switch n {
		case 63:
			l = append(l, "-")
		case 62:
			l = append(l, "#")
		default:
			l = append(l, a[n].Text)
			letters++
		}
	}
	if len(l) == 1 {
		return l[0]
	}
	if letters == len(l) && letters == len(a) {
		return "."
	}
	return "(" + strings.Join(l, "|") + ")"
}

func letter(x api.Regex, a []api.Letter) bool {
	return x.Kind == api.RxSet && len(x.Symbols) == 1 && x.Symbols[0] < len(a)
}

func begins(x api.Regex, a []api.Letter) bool {
	return letter(x, a) && slices.ContainsFunc(a, func(l api.Letter) bool {
		text := a[x.Symbols[0]].Text
		return l.Text != text && strings.HasPrefix(l.Text, text)
	})
}

// TestRandomPrint prints expressions, and reads what is printed.
func TestRandomPrint(t *testing.T) {
	r := rand.New(rand.NewSource(9))
	apart, changed := 0, 0
	for range 40000 {
		a := [][]api.Letter{abc(), plain("c", "h", "ch"), plain("a", "ab", "b"), plain("a", "aa", "aaa"), long(), plain("ba", "b", "a", "ab")}[r.Intn(6)]
		x := random(r, 2+r.Intn(5))
		s, normal := regex.Print(x, a), regex.Simple(x)
		if want := printBy(simpleBy(x), a); s != want {
			t.Fatalf("P7.6: Print(%v) = %q, want %q", x, s, want)
		}
		if s == "" != (normal.Kind == api.RxEmpty) {
			t.Fatalf("P7.6: Print(%v) = %q", x, s)
		}
		if s == "" || len(s) > api.MaxText {
			continue
		}
		got, at := regex.Parse(s, a, nil)
		if at != -1 || !reflect.DeepEqual(got, normal) {
			t.Fatalf("P7.10: Parse(%q) returns %v and %d, but it is printed for %v", s, got, at, normal)
		}
		if letters := strings.NewReplacer("(", "", ")", "").Replace(s); letters != s {
			changed++
			if y, end := regex.Parse(letters, a, nil); end == -1 && !same(y, normal) {
				apart++
			}
		}
	}
	if apart < 1000 || changed < 5000 {
		t.Error("parentheses are printed and needed:", changed, apart)
	}
}

// TestLongPrint reads patterns of 1024 bytes, and not longer ones.
func TestLongPrint(t *testing.T) {
	for _, x := range []struct{ letters, at int }{{1023, -1}, {1024, -1}, {1025, 1024}} {
		var l []api.Regex
		for range x.letters {
			l = append(l, set(1))
		}
		s := regex.Print(seq(l...), abc())
		if s != strings.Repeat("b", x.letters) {
			t.Fatal("P7.6:", x.letters, "letters are printed as", len(s), "bytes")
		}
		r, at := regex.Parse(s, abc(), nil)
		if at != x.at || at == -1 && !same(r, seq(l...)) {
			t.Error("P7.10:", x.letters, "letters are read up to", at)
		}
	}
}
