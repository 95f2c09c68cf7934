package alphabet_test

import (
	"fmt"
	"math"
	"math/rand"
	"regexp"
	"slices"
	"strconv"
	"strings"
	"testing"

	"wordbook/alphabet"
	"wordbook/api"
)

// extremes are integers that are no number of a letter, and neither a mark, a case nor a width.
var extremes = []int{math.MinInt, math.MinInt + 1, math.MinInt32, -1 << 8, 1 << 16, 1 << 32, 1<<32 + 1, math.MaxInt32, math.MaxInt - 1, math.MaxInt}

// plain is an alphabet of letters that are their own bases.
func plain(texts ...string) []api.Letter {
	var a []api.Letter
	for i, text := range texts {
		a = append(a, api.Letter{Text: text, Base: i, Width: 5})
	}
	return a
}

// plainOf is an alphabet of one letter.
func plainOf(text string, width int) []api.Letter {
	return []api.Letter{{Text: text, Width: width}}
}

// german is an alphabet with marks, capitals, and letters of several bytes.
func german() []api.Letter {
	return []api.Letter{
		{Text: "a", Base: 0, Width: 5},
		{Text: "A", Base: 0, Case: 1, Width: 6},
		{Text: "ä", Base: 0, Mark: 1, Width: 5},
		{Text: "Ä", Base: 0, Mark: 1, Case: 1, Width: 6},
		{Text: "c", Base: 4, Width: 4},
		{Text: "h", Base: 5, Width: 5},
		{Text: "s", Base: 6, Width: 4},
		{Text: "ch", Base: 7, Width: 9},
		{Text: "Ch", Base: 7, Case: 1, Width: 11},
		{Text: "sch", Base: 9, Width: 13},
		{Text: "ß", Base: 6, Mark: 15, Width: 1000},
	}
}

// many is an alphabet of n letters.
func many(n int) []api.Letter {
	var texts []string
	for i := range n {
		texts = append(texts, string([]byte{byte('a' + i%26), byte('a' + i/26)}))
	}
	return plain(texts...)
}

// random is an alphabet of short texts, so that many are the beginning of another one.
func random(r *rand.Rand) []api.Letter {
	bytes := "abch\xc3\xa4"[:1+r.Intn(6)]
	seen := map[string]bool{}
	var a []api.Letter
	for range 1 + r.Intn(12) {
		text := ""
		for range 1 + r.Intn(4) {
			text += bytes[r.Intn(len(bytes)):][:1]
		}
		if !seen[text] {
			seen[text] = true
			a = append(a, api.Letter{Text: text, Width: 1 + r.Intn(1000)})
		}
	}
	own := r.Intn(len(a))
	for i := range a {
		a[i].Base = i
		if i != own && r.Intn(2) == 0 {
			a[i].Base, a[i].Mark, a[i].Case = own, r.Intn(16), r.Intn(2)
		}
	}
	return a
}

var textForm = regexp.MustCompile("^[!$%&'+<A-Z\\[\\\\\\]^`a-z\\x7f-\\xff]{1,4}$")

// defined reports whether an alphabet is valid, as the chapter says.
func defined(a []api.Letter) bool {
	for i, l := range a {
		latin := ""
		for j := range len(l.Text) {
			latin += string(rune(l.Text[j]))
		}
		if !textForm.MatchString(latin) || l.Base < 0 || l.Base >= len(a) || a[l.Base].Base != l.Base {
			return false
		}
		if l.Mark < 0 || l.Mark > 15 || l.Case != 0 && l.Case != 1 || l.Width < 1 || l.Width > 1000 {
			return false
		}
		if l.Base == i && (l.Mark != 0 || l.Case != 0) {
			return false
		}
		for _, other := range a[:i] {
			if other.Text == l.Text {
				return false
			}
		}
	}
	return 1 <= len(a) && len(a) <= 60
}

// longest returns the letter with the longest text that begins a string, or -1.
func longest(a []api.Letter, s string) int {
	n := -1
	for i, l := range a {
		if strings.HasPrefix(s, l.Text) && (n < 0 || len(l.Text) > len(a[n].Text)) {
			n = i
		}
	}
	return n
}

// texts joins the texts of letters.
func texts(a []api.Letter, w []int) string {
	s := ""
	for _, n := range w {
		s += a[n].Text
	}
	return s
}

// reserved has bytes that no text of a letter has.
const reserved = " \n\t\r\x00\x1f0123456789-#.|()*?{}>/_~;:,=\"@"

// wrong are alphabets that are not valid, by what is wrong with them.
func wrong() map[string][]api.Letter {
	m := map[string][]api.Letter{
		"no letters":         nil,
		"an empty list":      {},
		"61 letters":         many(61),
		"1000 letters":       many(1000),
		"an empty text":      plain(""),
		"a second one":       plain("a", ""),
		"5 bytes":            plain("abcde"),
		"5 bytes of UTF-8":   plain("ä", "äää"),
		"many bytes":         plain(strings.Repeat("a", 1000)),
		"the same text":      plain("a", "a"),
		"a later one":        plain("a", "b", "ch", "c", "ch"),
		"the same long text": plain("abcd", "b", "abcd"),
	}
	change := func(name string, n int, f func(*api.Letter)) {
		a := german()
		f(&a[n])
		m[name] = a
	}
	change("a base behind the last letter", 1, func(l *api.Letter) { l.Base = 11 })
	change("a base before the first letter", 1, func(l *api.Letter) { l.Base = -1 })
	change("a base with another base", 10, func(l *api.Letter) { l.Base = 1 })
	change("a base that loses its base", 7, func(l *api.Letter) { l.Base = 0 })
	change("a circle of bases", 0, func(l *api.Letter) { l.Base = 1 })
	change("a mark of a base", 0, func(l *api.Letter) { l.Mark = 1 })
	change("a capital that is a base", 4, func(l *api.Letter) { l.Case = 1 })
	change("a mark of 16", 2, func(l *api.Letter) { l.Mark = 16 })
	change("a mark of -1", 2, func(l *api.Letter) { l.Mark = -1 })
	change("a case of 2", 1, func(l *api.Letter) { l.Case = 2 })
	change("a case of -1", 1, func(l *api.Letter) { l.Case = -1 })
	change("a width of 0", 0, func(l *api.Letter) { l.Width = 0 })
	change("a width of -1", 10, func(l *api.Letter) { l.Width = -1 })
	change("a width of 1001", 10, func(l *api.Letter) { l.Width = 1001 })
	for _, n := range extremes {
		change("a base of "+strconv.Itoa(n), 3, func(l *api.Letter) { l.Base = n })
		change("a mark of "+strconv.Itoa(n), 3, func(l *api.Letter) { l.Mark = n })
		change("a case of "+strconv.Itoa(n), 3, func(l *api.Letter) { l.Case = n })
		change("a width of "+strconv.Itoa(n), 3, func(l *api.Letter) { l.Width = n })
	}
	for i := range len(reserved) {
		b := reserved[i : i+1]
		m["the byte "+strconv.Quote(b)] = plain("a", b)
		m["an end with the byte "+strconv.Quote(b)] = plain("abc"+b, "a")
	}
	return m
}

// right are alphabets that are valid.
func right() map[string][]api.Letter {
	return map[string][]api.Letter{
		"one letter":       plain("a"),
		"60 letters":       many(60),
		"4 bytes":          plain("abcd"),
		"marks":            german(),
		"bytes of no text": plain("\x7f", "\x80", "\xff", "\xff\xfe", "+", "!", "$", "%", "&", "'", "<", "[", "\\", "]", "^", "`"),
		"beginnings":       plain("c", "h", "ch"),
		"a later base":     {{Text: "A", Base: 1, Case: 1, Width: 6}, {Text: "a", Base: 1, Width: 5}},
		"the same marks":   {{Text: "a", Base: 0, Width: 1}, {Text: "b", Base: 0, Width: 1}, {Text: "c", Base: 0, Width: 1000}},
		"the greatest":     {{Text: "a", Base: 0, Width: 1000}, {Text: "b", Base: 0, Mark: 15, Case: 1, Width: 1000}},
	}
}

func TestValid(t *testing.T) {
	for name, a := range right() {
		if !alphabet.Valid(a) || !defined(a) {
			t.Errorf("P5.1: %s: not valid", name)
		}
	}
	for name, a := range wrong() {
		if alphabet.Valid(a) || defined(a) {
			t.Errorf("P5.1: %s: valid", name)
		}
	}
}

// TestReserved tries every byte at every place of a text.
func TestReserved(t *testing.T) {
	for b := range 256 {
		want := b >= 33 && strings.IndexByte(reserved, byte(b)) < 0
		for at := range 4 {
			text := []byte("abcd")
			text[at] = byte(b)
			if got := alphabet.Valid(plain("zz", string(text))); got != want {
				t.Errorf("P5.1: %q: %v", text, got)
			}
			if got := alphabet.Valid(plain("zz", string(text[at:at+1]))); got != want {
				t.Errorf("P5.1: %q: %v", text[at:at+1], got)
			}
		}
	}
}

// TestRandomValid changes valid alphabets at one place.
func TestRandomValid(t *testing.T) {
	r := rand.New(rand.NewSource(1))
	valid := 0
	for range 20000 {
		a := random(r)
		l := &a[r.Intn(len(a))]
		n := r.Intn(20) - 2
		switch r.Intn(6) {
		case 0:
			l.Base = n
		case 1:
			l.Mark = n
		case 2:
			l.Case = n
		case 3:
			l.Width = n * 100
		case 4:
			l.Text += "ab-\xff "[r.Intn(5):][:1]
		case 5:
			l.Text = a[r.Intn(len(a))].Text
		}
		want := defined(a)
		if want {
			valid++
		}
		if got := alphabet.Valid(a); got != want {
			t.Fatalf("P5.1: Valid(%v) = %v", a, got)
		}
	}
	if valid < 5000 || valid > 15000 {
		t.Errorf("%d alphabets are valid", valid)
	}
}

func TestRead(t *testing.T) {
	for _, x := range []struct {
		a    []api.Letter
		s    string
		want []int
		at   int
	}{
		{plain("c", "h", "ch"), "chc", []int{2, 0}, -1},
		{plain("c", "h", "ch"), "ch-c", []int{2}, 2},
		{plain("c", "h", "ch"), "", nil, -1},
		{plain("c", "h", "ch"), "-", nil, 0},
		{plain("c", "h", "ch"), "hc", []int{1, 0}, -1},
		{plain("c", "h", "ch"), "cch", []int{0, 2}, -1},
		{plain("c", "h", "ch"), "hch ", []int{1, 2}, 3},
		{plain("c", "h", "ch"), "C", nil, 0},
		{plain("ch", "h", "c"), "cchh", []int{2, 0, 1}, -1},
		{plain("abcd", "abc", "ab", "a"), "abcdabcaba", []int{0, 1, 2, 3}, -1},
		{plain("abcd", "a"), "aabcaabcd", []int{1, 1}, 2},
		{plain("abcd", "a"), "abc", []int{1}, 1},
		{plain("abcd"), "abc", nil, 0},
		{plain("abcd"), "abcdabc", []int{0}, 4},
		{plain("ab", "abc", "cd"), "abcd", []int{1}, 3},
		{plain("ab"), "aab", nil, 0},
		{german(), "schachÄß", []int{9, 0, 7, 3, 10}, -1},
		{german(), "Chasö", []int{8, 0, 6}, 4},
		{german(), "ä\xc3", []int{2}, 2},
		{plain("\xc3", "\xa4"), "ä", []int{0, 1}, -1},
		{plain("a"), "a\x00a", []int{0}, 1},
	} {
		if w, at := alphabet.Read(x.a, x.s); !slices.Equal(w, x.want) || at != x.at {
			t.Errorf("P5.2: Read(%v, %q) = %v, %d, want %v, %d", x.a, x.s, w, at, x.want, x.at)
		}
	}
	for name, a := range wrong() {
		for _, s := range []string{"", "a", "ab", "abcd", "-", "schachÄß"} {
			if w, at := alphabet.Read(a, s); len(w) != 0 || at != 0 {
				t.Errorf("P5.2: %s: Read of %q returns %v, %d", name, s, w, at)
			}
		}
	}
	long := strings.Repeat("sch", 100000)
	if w, at := alphabet.Read(german(), long+"-"+long); len(w) != 100000 || at != len(long) {
		t.Errorf("P5.2: %d letters are read, up to %d", len(w), at)
	}
}

// TestRandomRead reads random strings, which letters can begin everywhere, and goes through what is read.
func TestRandomRead(t *testing.T) {
	r := rand.New(rand.NewSource(2))
	ends := 0
	for range 20000 {
		a := random(r)
		s := ""
		for range r.Intn(8) {
			s += a[r.Intn(len(a))].Text
		}
		if len(s) > 0 && r.Intn(2) == 0 {
			at := r.Intn(len(s))
			s = s[:at] + "abch-\xa4"[r.Intn(6):][:1] + s[at+r.Intn(2):]
		}
		w, at := alphabet.Read(a, s)
		if at < 0 {
			ends++
		}
		offset := 0
		for i, n := range w {
			if n < 0 || n >= len(a) || n != longest(a, s[offset:]) {
				t.Fatalf("P5.2, P5.8: Read(%v, %q) = %v, but letter %d is another one", a, s, w, i)
			}
			offset += len(a[n].Text)
		}
		if at < 0 && offset != len(s) || at >= 0 && (at != offset || at >= len(s) || longest(a, s[at:]) >= 0) || at < -1 {
			t.Fatalf("P5.2, P5.8: Read(%v, %q) = %v, %d", a, s, w, at)
		}
		if text, e := alphabet.Write(a, w); text != s[:offset] || e != api.OK {
			t.Fatalf("P5.8: Read(%v, %q) = %v, which is written as %q, %d", a, s, w, text, e)
		}
	}
	if ends < 5000 || ends > 15000 {
		t.Errorf("%d strings are read completely", ends)
	}
}

func TestWrite(t *testing.T) {
	for _, x := range []struct {
		a    []api.Letter
		w    []int
		want string
		e    api.Errno
		safe bool
	}{
		{plain("c", "h", "ch"), nil, "", api.OK, true},
		{plain("c", "h", "ch"), []int{}, "", api.OK, true},
		{plain("c", "h", "ch"), []int{0, 1}, "ch", api.OK, false},
		{plain("c", "h", "ch"), []int{2}, "ch", api.OK, true},
		{plain("c", "h", "ch"), []int{1, 0}, "hc", api.OK, true},
		{plain("c", "h", "ch"), []int{1, 0, 0, 0, 1}, "hccch", api.OK, false},
		{plain("c", "h", "ch"), []int{2, 1, 0, 2, 0}, "chhcchc", api.OK, true},
		{plain("a", "ab", "bc"), []int{0, 2}, "abc", api.OK, false},
		{plain("c", "h", "ch"), []int{3}, "", api.ErrRange, false},
		{plain("c", "h", "ch"), []int{-1}, "", api.ErrRange, false},
		{plain("c", "h", "ch"), []int{0, 2, 3, 1}, "", api.ErrRange, false},
		{plain("c", "h", "ch"), []int{0, 2, api.Plus}, "", api.ErrRange, false},
		{plain("c", "h", "ch"), []int{api.WordEdge, 0}, "", api.ErrRange, false},
		{many(60), []int{59, 0}, "hcaa", api.OK, true},
		{many(60), []int{59, 60}, "", api.ErrRange, false},
		{german(), []int{9, 0, 7, 3, 10}, "schachÄß", api.OK, true},
		{german(), []int{6, 7}, "sch", api.OK, false},
		{german(), []int{6, 4, 5}, "sch", api.OK, false},
	} {
		if s, e := alphabet.Write(x.a, x.w); s != x.want || e != x.e {
			t.Errorf("P5.3: Write(%v, %v) = %q, %d, want %q, %d", x.a, x.w, s, e, x.want, x.e)
		}
		if safe := alphabet.Safe(x.a, x.w); safe != x.safe {
			t.Errorf("P5.3: Safe(%v, %v) = %v", x.a, x.w, safe)
		}
	}
	for _, n := range extremes {
		if s, e := alphabet.Write(plain("a", "b"), []int{1, n}); s != "" || e != api.ErrRange || alphabet.Safe(plain("a", "b"), []int{1, n}) {
			t.Errorf("P5.3: Write of %d returns %q, %d", n, s, e)
		}
	}
	for name, a := range wrong() {
		for _, w := range [][]int{nil, {0}, {0, 1}, {-1}, {1000}} {
			if s, e := alphabet.Write(a, w); s != "" || e != api.ErrArg {
				t.Errorf("P5.3: %s: Write of %v returns %q, %d", name, w, s, e)
			}
			if alphabet.Safe(a, w) {
				t.Errorf("P5.3: %s: %v is safe", name, w)
			}
		}
	}
}

// TestRandomSafe compares Safe with reading, and checks the words that have to be safe.
func TestRandomSafe(t *testing.T) {
	r := rand.New(rand.NewSource(3))
	safe, free := 0, 0
	for range 20000 {
		a := random(r)
		var w []int
		for range r.Intn(6) {
			w = append(w, r.Intn(len(a)))
		}
		var again []int
		rest := texts(a, w)
		for n := longest(a, rest); n >= 0 && rest != ""; n = longest(a, rest) {
			again = append(again, n)
			rest = rest[len(a[n].Text):]
		}
		got := alphabet.Safe(a, w)
		if want := rest == "" && slices.Equal(again, w); got != want {
			t.Fatalf("P5.3: Safe(%v, %v) = %v", a, w, got)
		}
		if got {
			safe++
		}
		if prefixFree(a) {
			free++
			if !got {
				t.Fatalf("P5.9: %v is not safe in %v", w, a)
			}
		}
		for n := range a {
			if !alphabet.Safe(a, []int{n}) {
				t.Fatalf("P5.9: %d is not safe in %v", n, a)
			}
		}
	}
	if safe < 5000 || safe > 19000 || free < 1000 {
		t.Errorf("%d words are safe, %d because no letter begins another one", safe, free)
	}
}

// prefixFree reports whether no letter of an alphabet begins another one.
func prefixFree(a []api.Letter) bool {
	for i, l := range a {
		for j, other := range a {
			if i != j && strings.HasPrefix(other.Text, l.Text) {
				return false
			}
		}
	}
	return true
}

func TestFold(t *testing.T) {
	for _, x := range []struct {
		a       []api.Letter
		w, want []int
	}{
		{german(), nil, nil},
		{german(), []int{0, 1, 2, 3, 4, 5, 6, 7, 8, 9, 10}, []int{0, 0, 0, 0, 4, 5, 6, 7, 7, 9, 6}},
		{german(), []int{1, -1, 3, 11, api.Plus, api.WordEdge, 10, 10}, []int{0, -1, 0, 11, api.Plus, api.WordEdge, 6, 6}},
		{german(), append([]int{1}, extremes...), append([]int{0}, extremes...)},
		{[]api.Letter{{Text: "A", Base: 1, Case: 1, Width: 6}, {Text: "a", Base: 1, Width: 5}}, []int{0, 1, 2}, []int{1, 1, 2}},
	} {
		if f := alphabet.Fold(x.a, x.w); !slices.Equal(f, x.want) {
			t.Errorf("P5.4: Fold(%v, %v) = %v, want %v", x.a, x.w, f, x.want)
		}
	}
	w := append([]int{0, 1, 2, 3, 8, 10, -1, 11}, extremes...)
	for name, a := range wrong() {
		if f := alphabet.Fold(a, w); !slices.Equal(f, w) {
			t.Errorf("P5.4: %s: Fold returns %v", name, f)
		}
	}
}

func TestRandomFold(t *testing.T) {
	r := rand.New(rand.NewSource(4))
	for range 20000 {
		a := random(r)
		var w []int
		for range r.Intn(8) {
			w = append(w, r.Intn(len(a)+4)-2)
		}
		f := alphabet.Fold(a, w)
		if len(f) != len(w) || !slices.Equal(alphabet.Fold(a, f), f) {
			t.Fatalf("P5.10: Fold(%v, %v) = %v", a, w, f)
		}
		for i, n := range f {
			letter := 0 <= w[i] && w[i] < len(a)
			if !letter && n != w[i] || letter && (n != a[w[i]].Base || a[n].Base != n) {
				t.Fatalf("P5.4, P5.10: Fold(%v, %v) = %v", a, w, f)
			}
		}
	}
}

func TestParse(t *testing.T) {
	for _, x := range []struct {
		s    string
		want []api.Letter
	}{
		{"a a 0 0 5\nA a 0 1 6\n", []api.Letter{{Text: "a", Base: 0, Width: 5}, {Text: "A", Base: 0, Case: 1, Width: 6}}},
		{"A a 0 1 6\na a 0 0 5\n", []api.Letter{{Text: "A", Base: 1, Case: 1, Width: 6}, {Text: "a", Base: 1, Width: 5}}},
		{"a a 0 0 1\n", plainOf("a", 1)},
		{"abcd abcd 0 0 1000\n", plainOf("abcd", 1000)},
		{"\xff \xff 0 0 10\n", plainOf("\xff", 10)},
		{"ch ch 0 0 9\nß ch 15 1 100\n", []api.Letter{{Text: "ch", Base: 0, Width: 9}, {Text: "ß", Base: 0, Mark: 15, Case: 1, Width: 100}}},
	} {
		if a, line, e := alphabet.Parse(x.s); !slices.Equal(a, x.want) || line != 0 || e != api.OK {
			t.Errorf("P5.5: Parse(%q) = %v, %d, %d, want %v", x.s, a, line, e, x.want)
		}
		if s := alphabet.Print(x.want); s != x.s {
			t.Errorf("P5.6: Print(%v) = %q, want %q", x.want, s, x.s)
		}
	}
}

func TestParseErrors(t *testing.T) {
	const good = "a a 0 0 5\nA a 0 1 6\n"
	forms := []string{
		"x", "\n", " \n", "a\n", "a a\n", "a a 0 0\n", "a a 0 0 \n", "a a 0 0 5 \n", " a a 0 0 5\n", "a  a 0 0 5\n", "a a  0 0 5\n",
		"a a 0 0 5 6\n", " a 0 0 5\n", "a  0 0 5\n", "  0 0 5\n", "a a 00 0 5\n", "a a 0 00 5\n", "a a 0 0 05\n", "a a 0 0 005\n",
		"a a 0 0 1234567\n", "a a 0000000 0 5\n", "a a 0 0 -5\n", "a a 0 0 +5\n", "a a -0 0 5\n", "a a 0 0 5a\n", "a a 0 0 5.0\n",
		"a a 0 0 0x5\n", "a a 0 0 ５\n", "a a 0 0 5\r\n", "a\ta\t0\t0\t5\n", "a a 0 0\t5\n", "a a x 0 5\n", "a a 0 x 5\n", "a a 0 0 x\n",
		"a a 0 0 5", "a a 0 0 5\x00\n", "a a 0 0 1e3\n", "a a 0 0 1/2\n", "a a 0 0 1:2\n", "a a 0 0 99999999999999999999\n", " ", "a a 0 0 5\x0b\n",
	}
	check := func(s string, line int, e api.Errno) {
		t.Helper()
		if a, l, f := alphabet.Parse(s); len(a) != 0 || l != line || f != e {
			t.Errorf("P5.5: Parse(%.80q) = %v, %d, %d, want %d, %d", s, a, l, f, line, e)
		}
	}
	for _, s := range forms {
		check(s, 1, api.ErrForm)
		check(good+s, 3, api.ErrForm)
		// The form of all lines counts before what they say.
		check("b c 0 0 5\n"+s, 2, api.ErrForm)
		check("1 1 9 9 0\n"+s, 2, api.ErrForm)
		check("a a 0 0 5\na a 0 0 5\nx y 0 0 0\n"+s, 4, api.ErrForm)
		if strings.HasSuffix(s, "\n") {
			check(s+good, 1, api.ErrForm)
			check(good+s+"x\n", 3, api.ErrForm)
			check(s+"b c 0 0 5\n", 1, api.ErrForm)
		}
	}
	check(good+"\n", 3, api.ErrForm)
	check(good+" ", 3, api.ErrForm)
	check("a a 0 0 5\n\nA a 0 1 6\n", 2, api.ErrForm)
	for _, x := range []struct {
		s    string
		line int
	}{
		{"a b 0 0 5\n", 1}, {"a A 0 0 5\n", 1}, {good + "b c 0 0 5\n", 3}, {"a a 0 0 5\nb c 0 0 5\nd e 0 0 5\n", 2},
		{"ab a 0 0 5\n", 1}, {"a ab 0 0 5\n", 1}, {"a 0 0 0 5\n", 1}, {"a a 0 0 5\nb a 99 99 0\nc x 0 0 5\n", 3},
		{"1 1 0 0 5\na b 0 0 5\n", 2}, {"a a 0 0 5\na a 0 0 5\na - 0 0 5\n", 3}, {"abcde abcdf 0 0 5\n", 1},
	} {
		check(x.s, x.line, api.ErrNone)
	}
	for _, s := range []string{
		"", "1 1 0 0 5\n", "a a 1 0 5\n", "a a 0 1 5\n", "a a 0 0 0\n", "a a 0 0 1001\n", "a a 0 0 999999\n", "a a 100000 0 5\n",
		"a a 0 100000 5\n", "abcde abcde 0 0 5\n", "a a 0 0 5\na a 0 0 5\n", "a a 0 0 5\na a 0 1 5\n", "a b 0 0 5\nb a 0 0 5\n",
		"a a 0 0 5\nb a 1 0 5\nc b 1 0 5\n", "a a 0 0 5\nb a 16 0 5\n", "a a 0 0 5\nb a 15 2 5\n", "- - 0 0 5\n", "\t \t 0 0 5\n",
		"\r \r 0 0 5\n", "\x00 \x00 0 0 5\n", "@ @ 0 0 5\n", lines(many(61)),
	} {
		check(s, 0, api.ErrArg)
	}
	if a, line, e := alphabet.Parse(lines(many(60))); len(a) != 60 || line != 0 || e != api.OK {
		t.Errorf("P5.5: 60 letters: %v, %d, %d", a, line, e)
	}
}

// lines is the description of letters that are their own bases.
func lines(a []api.Letter) string {
	s := ""
	for _, l := range a {
		s += fmt.Sprintf("%s %s %d %d %d\n", l.Text, l.Text, l.Mark, l.Case, l.Width)
	}
	return s
}

func TestParseLimit(t *testing.T) {
	row := "a a 0 0 5\n"
	full := strings.Repeat(row, 6553) + "a a 0\n"
	wide := strings.Repeat("a", (65536-len("  0 0 5\n"))/2)
	wide += " " + wide + " 0 0 5\n"
	for _, x := range []struct {
		s    string
		line int
		e    api.Errno
	}{
		{full, 6554, api.ErrForm},
		{full[:65530], 0, api.ErrArg},
		{strings.Repeat("b c 0 0 5\n", 6553), 1, api.ErrNone},
		{wide, 0, api.ErrArg},
		{strings.Repeat("\n", 65536), 1, api.ErrForm},
		{strings.Repeat(" ", 65536), 1, api.ErrForm},
		{strings.Repeat("\n", 65537), 0, api.ErrLimit},
		{full + "\n", 0, api.ErrLimit},
		{wide + "x", 0, api.ErrLimit},
		{strings.Repeat(row, 10000), 0, api.ErrLimit},
	} {
		if a, line, e := alphabet.Parse(x.s); len(a) != 0 || line != x.line || e != x.e {
			t.Errorf("P5.5: Parse of %d bytes returns %v, %d, %d, want %d, %d", len(x.s), a, line, e, x.line, x.e)
		}
	}
}

var lineForm = regexp.MustCompile(`^([^ \n]+) ([^ \n]+) (0|[1-9][0-9]{0,5}) (0|[1-9][0-9]{0,5}) (0|[1-9][0-9]{0,5})\n`)

// parsed reads a description as the chapter says, by a regular expression.
func parsed(s string) ([]api.Letter, int, api.Errno) {
	var a []api.Letter
	var bases []string
	for s != "" {
		m := lineForm.FindStringSubmatch(s)
		if m == nil {
			return nil, len(a) + 1, api.ErrForm
		}
		number := func(part int) int {
			n, _ := strconv.Atoi(m[part])
			return n
		}
		a = append(a, api.Letter{Text: m[1], Mark: number(3), Case: number(4), Width: number(5)})
		bases = append(bases, m[2])
		s = s[len(m[0]):]
	}
	for i, base := range bases {
		a[i].Base = slices.IndexFunc(a, func(l api.Letter) bool { return l.Text == base })
		if a[i].Base < 0 {
			return nil, i + 1, api.ErrNone
		}
	}
	if !defined(a) {
		return nil, 0, api.ErrArg
	}
	return a, 0, api.OK
}

// TestRandomParse prints alphabets, reads them again, and reads descriptions that are a little different.
func TestRandomParse(t *testing.T) {
	r := rand.New(rand.NewSource(5))
	codes := map[api.Errno]int{}
	for range 20000 {
		a := random(r)
		s := alphabet.Print(a)
		if again, line, e := alphabet.Parse(s); !slices.Equal(again, a) || line != 0 || e != api.OK {
			t.Fatalf("P5.7: Parse(%q) = %v, %d, %d, want %v", s, again, line, e, a)
		}
		b := []byte(s)
		for range 1 + r.Intn(2) {
			at := r.Intn(len(b))
			c := "abch01569 \n-"[r.Intn(12)]
			switch r.Intn(3) {
			case 0:
				b[at] = c
			case 1:
				b = slices.Insert(b, at, c)
			case 2:
				b = slices.Delete(b, at, at+1)
			}
		}
		s = string(b)
		want, wantLine, code := parsed(s)
		got, line, e := alphabet.Parse(s)
		if !slices.Equal(got, want) || line != wantLine || e != code {
			t.Fatalf("P5.5: Parse(%q) = %v, %d, %d, want %v, %d, %d", s, got, line, e, want, wantLine, code)
		}
		if printed := alphabet.Print(got); e == api.OK && printed != s {
			t.Fatalf("P5.7: %q is printed as %q", s, printed)
		}
		codes[e]++
	}
	for _, e := range []api.Errno{api.OK, api.ErrForm, api.ErrNone, api.ErrArg} {
		if codes[e] < 1000 {
			t.Errorf("only %d descriptions with the code %d", codes[e], e)
		}
	}
}

func TestPrint(t *testing.T) {
	for name, a := range right() {
		s := alphabet.Print(a)
		if strings.Count(s, "\n") != len(a) {
			t.Errorf("P5.6: %s: %q", name, s)
		}
		if again, line, e := alphabet.Parse(s); !slices.Equal(again, a) || line != 0 || e != api.OK {
			t.Errorf("P5.7: %s: Parse(%q) = %v, %d, %d", name, s, again, line, e)
		}
	}
	for name, a := range wrong() {
		if s := alphabet.Print(a); s != "" {
			t.Errorf("P5.6: %s: %q", name, s)
		}
	}
}

// TestAnything calls everything with letters and words of any kind.
func TestAnything(t *testing.T) {
	r := rand.New(rand.NewSource(6))
	number := func() int {
		if r.Intn(3) == 0 {
			return extremes[r.Intn(len(extremes))]
		}
		return r.Intn(6) - 2
	}
	text := func() string {
		b := make([]byte, r.Intn(7))
		for i := range b {
			b[i] = byte(r.Intn(256))
		}
		return string(b)
	}
	for range 50000 {
		a := make([]api.Letter, r.Intn(4))
		for i := range a {
			a[i] = api.Letter{Text: text(), Base: number(), Mark: number(), Case: number(), Width: number()}
		}
		w := make([]int, r.Intn(4))
		for i := range w {
			w[i] = number()
		}
		valid := alphabet.Valid(a)
		if valid != defined(a) {
			t.Fatalf("P5.1: Valid(%v) = %v", a, valid)
		}
		alphabet.Read(a, text())
		alphabet.Safe(a, w)
		alphabet.Parse(text())
		if s := alphabet.Print(a); (s != "") != valid {
			t.Fatalf("P5.6: Print(%v) = %q", a, s)
		}
		if f := alphabet.Fold(a, w); !valid && !slices.Equal(f, w) {
			t.Fatalf("P5.4: Fold(%v, %v) = %v", a, w, f)
		}
		if s, e := alphabet.Write(a, w); !valid && (s != "" || e != api.ErrArg) {
			t.Fatalf("P5.3: Write(%v, %v) = %q, %d", a, w, s, e)
		}
	}
}

// TestMemory checks that no call changes an argument or its spare capacity, and that Fold returns new memory.
func TestMemory(t *testing.T) {
	a := append(make([]api.Letter, 0, 20), german()...)
	w := append(make([]int, 0, 8), 1, 2, -1, 10)
	bad := append(make([]api.Letter, 0, 4), plain("a", "a")...)
	for _, b := range [][]api.Letter{a, bad} {
		alphabet.Valid(b)
		alphabet.Read(b, "schachÄß")
		alphabet.Write(b, w[:2])
		alphabet.Safe(b, w[:2])
		alphabet.Print(b)
		f := alphabet.Fold(b, w)
		for i := range f {
			f[i] = 77
		}
		if f = append(f, 88); !slices.Equal(w[:8], []int{1, 2, -1, 10, 0, 0, 0, 0}) {
			t.Error("R4: Fold shares memory with the word:", w[:8])
		}
	}
	if !slices.Equal(a[:20], append(german(), make([]api.Letter, 9)...)) || !slices.Equal(bad[:4], append(plain("a", "a"), make([]api.Letter, 2)...)) {
		t.Error("R4: an alphabet was changed:", a[:20], bad[:4])
	}
}
