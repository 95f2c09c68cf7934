package calendar_test

import (
	"fmt"
	"math"
	"math/rand"
	"regexp"
	"slices"
	"strconv"
	"strings"
	"testing"
	"time"

	"wordbook/api"
	"wordbook/calendar"
)

const (
	lastDay  = 1022679
	lastYear = 2800
)

// number is the number of a date that exists, by the calendar of the Go library.
func number(year, month, day int) int {
	first := time.Date(1, 1, 1, 0, 0, 0, 0, time.UTC)
	return int((time.Date(year, time.Month(month), day, 0, 0, 0, 0, time.UTC).Unix()-first.Unix())/86400) + 1
}

// exists reports whether there is a date, by the calendar of the Go library.
func exists(year, month, day int) bool {
	if year < 1 || year > lastYear || month < 1 || month > 12 || day < 1 || day > 31 {
		return false
	}
	return time.Date(year, time.Month(month), day, 0, 0, 0, 0, time.UTC).Day() == day
}

func span(from, to int) api.Span {
	return api.Span{From: from, To: to}
}

// badSpans are not valid.
func badSpans() []api.Span {
	l := []api.Span{
		{}, span(0, 1), span(0, lastDay), span(-1, 5), span(-5, -1), span(2, 1), span(7, 0), span(lastDay, lastDay-1),
		span(lastDay, 1), span(1, lastDay+1), span(lastDay, lastDay+1), span(lastDay+1, lastDay+1), span(lastDay+1, lastDay),
		span(1, api.MaxDay), span(api.MaxDay, api.MaxDay), span(5, math.MinInt), span(math.MaxInt, 5),
	}
	extremes := []int{math.MinInt, math.MinInt + 1, math.MinInt32, math.MaxInt32, math.MaxInt - 1, math.MaxInt}
	for _, from := range append(extremes, 1, lastDay) {
		for _, to := range extremes {
			l = append(l, span(from, to))
		}
	}
	return l
}

// goodSpans are valid, at the limits and between them.
func goodSpans() []api.Span {
	l := []api.Span{span(638079, 641731), span(639996, 640006)}
	edges := []int{1, 2, 3, 364, 365, 366, 367, 730179, lastDay - 365, lastDay - 2, lastDay - 1, lastDay}
	for i, from := range edges {
		for _, to := range edges[i:] {
			l = append(l, span(from, to))
		}
	}
	return l
}

func TestValid(t *testing.T) {
	for _, s := range goodSpans() {
		if !calendar.Valid(s) {
			t.Errorf("P4.1: %v is not valid", s)
		}
	}
	for _, s := range badSpans() {
		if calendar.Valid(s) {
			t.Errorf("P4.1: %v is valid", s)
		}
	}
}

// TestBadSpans checks that a span that is not valid has no relation to any other one, and no text.
func TestBadSpans(t *testing.T) {
	good := goodSpans()
	for _, bad := range badSpans() {
		for _, s := range append(good, badSpans()...) {
			if calendar.Before(bad, s) || calendar.Before(s, bad) {
				t.Errorf("P4.1: %v is before or behind %v", bad, s)
			}
			if m, ok := calendar.Meet(bad, s); m != (api.Span{}) || ok {
				t.Errorf("P4.1: Meet(%v, %v) = %v, %v", bad, s, m, ok)
			}
			if m, ok := calendar.Meet(s, bad); m != (api.Span{}) || ok {
				t.Errorf("P4.1: Meet(%v, %v) = %v, %v", s, bad, m, ok)
			}
			for _, l := range [][]api.Span{{bad}, {bad, s}, {s, bad}, {good[0], bad, s}, {s, good[0], bad}} {
				if f, ok := calendar.First(l); f != (api.Span{}) || ok {
					t.Errorf("P4.1: First(%v) = %v, %v", l, f, ok)
				}
			}
		}
		if text := calendar.Print(bad); text != "" {
			t.Errorf("P4.4: Print(%v) = %q", bad, text)
		}
	}
}

// shortSpans are all spans of the first days.
func shortSpans(days int) []api.Span {
	var l []api.Span
	for from := 1; from <= days; from++ {
		for to := from; to <= days; to++ {
			l = append(l, span(from, to))
		}
	}
	return l
}

// days has a bit for each day of a span of the first days.
func days(s api.Span) int {
	n := 0
	for day := s.From; day <= s.To; day++ {
		n |= 1 << day
	}
	return n
}

// TestPairs compares Before and Meet with what the days of two spans say, and checks their properties.
func TestPairs(t *testing.T) {
	l := shortSpans(8)
	for _, a := range l {
		for _, b := range l {
			before := true
			for x := a.From; x <= a.To; x++ {
				before = before && x < b.From
			}
			if calendar.Before(a, b) != before {
				t.Errorf("P4.1: Before(%v, %v) = %v", a, b, !before)
			}
			m, ok := calendar.Meet(a, b)
			if ok != (days(a)&days(b) != 0) || ok && days(m) != days(a)&days(b) || !ok && m != (api.Span{}) {
				t.Errorf("P4.1: Meet(%v, %v) = %v, %v", a, b, m, ok)
			}
			trichotomy(t, a, b)
		}
	}
	if m, ok := calendar.Meet(span(1, lastDay), span(lastDay, lastDay)); m != span(lastDay, lastDay) || !ok {
		t.Errorf("P4.1: the last day and all days have %v, %v", m, ok)
	}
	if !calendar.Before(span(1, lastDay-1), span(lastDay, lastDay)) {
		t.Error("P4.1: all days but the last one are not before it")
	}
}

// trichotomy checks that two valid spans have exactly one of the relations of P4.8.
func trichotomy(t *testing.T, a, b api.Span) {
	t.Helper()
	n := 0
	_, ok := calendar.Meet(a, b)
	for _, holds := range []bool{calendar.Before(a, b), calendar.Before(b, a), ok} {
		if holds {
			n++
		}
	}
	if n != 1 {
		t.Errorf("P4.8: %v and %v have %d relations", a, b, n)
	}
}

func TestOrder(t *testing.T) {
	l := append(shortSpans(6), badSpans()[:12]...)
	for _, a := range l {
		if calendar.Before(a, a) {
			t.Errorf("P4.8: %v is before itself", a)
		}
		for _, b := range l {
			for _, c := range l {
				if calendar.Before(a, b) && calendar.Before(b, c) && !calendar.Before(a, c) {
					t.Errorf("P4.8: %v is before %v, which is before %v", a, b, c)
				}
			}
		}
	}
	for _, a := range goodSpans() {
		for _, b := range goodSpans() {
			trichotomy(t, a, b)
		}
	}
}

func TestFirst(t *testing.T) {
	for _, x := range []struct {
		l    []api.Span
		want api.Span
		ok   bool
	}{
		{nil, api.Span{}, false},
		{[]api.Span{}, api.Span{}, false},
		{[]api.Span{span(5, 9)}, span(5, 9), true},
		{[]api.Span{span(5, 9), span(7, 8)}, span(5, 8), true},
		{[]api.Span{span(7, 8), span(5, 9)}, span(5, 8), true},
		{[]api.Span{span(7, 8), span(5, 6), span(5, 9)}, span(5, 6), true},
		{[]api.Span{span(lastDay, lastDay)}, span(lastDay, lastDay), true},
		{[]api.Span{span(lastDay, lastDay), span(1, lastDay)}, span(1, lastDay), true},
		{[]api.Span{span(1, lastDay), span(1, 1), span(1, lastDay)}, span(1, 1), true},
	} {
		if s, ok := calendar.First(x.l); s != x.want || ok != x.ok {
			t.Errorf("P4.1: First(%v) = %v, %v, want %v, %v", x.l, s, ok, x.want, x.ok)
		}
	}
}

// firsts has a bit for each day that is the least of one day of each span.
func firsts(l []api.Span) int {
	least := 0
	for day := l[0].From; day <= l[0].To; day++ {
		if len(l) == 1 {
			least |= 1 << day
			continue
		}
		rest := firsts(l[1:])
		for other := range 64 {
			if rest>>other&1 == 1 {
				least |= 1 << min(day, other)
			}
		}
	}
	return least
}

// TestFirstDays checks that First has exactly the days that can be the least ones.
func TestFirstDays(t *testing.T) {
	l := shortSpans(5)
	check := func(l ...api.Span) {
		if s, ok := calendar.First(l); !ok || days(s) != firsts(l) {
			t.Errorf("P4.7: First(%v) = %v, %v", l, s, ok)
		}
	}
	for _, a := range l {
		check(a)
		for _, b := range l {
			check(a, b)
			for _, c := range l {
				check(a, b, c)
			}
		}
	}
}

// TestMemory checks that First changes neither its argument nor the spare capacity of it.
func TestMemory(t *testing.T) {
	l := append(make([]api.Span, 0, 4), span(7, 8), span(5, 9))
	calendar.First(l)
	if !slices.Equal(l[:4], []api.Span{span(7, 8), span(5, 9), {}, {}}) {
		t.Error("R4: First changed its argument:", l[:4])
	}
}

func TestDay(t *testing.T) {
	for _, x := range []struct{ year, month, day, want int }{
		{1, 1, 1, 1},
		{1, 12, 31, 365},
		{4, 2, 29, 3*365 + 60},
		{1748, 1, 1, 638079},
		{1757, 12, 31, 641731},
		{1753, 4, 1, 639996},
		{1753, 4, 11, 640006},
		{2000, 2, 29, 730179},
		{2800, 2, 29, lastDay - 306},
		{2800, 12, 31, lastDay},
	} {
		if n, e := calendar.Day(x.year, x.month, x.day); n != x.want || e != api.OK {
			t.Errorf("P4.2: Day(%d, %d, %d) = %d, %d, want %d", x.year, x.month, x.day, n, e, x.want)
		}
		if y, m, d, e := calendar.Date(x.want); y != x.year || m != x.month || d != x.day || e != api.OK {
			t.Errorf("P4.2: Date(%d) = %d, %d, %d, %d", x.want, y, m, d, e)
		}
	}
}

// TestAllDates counts all days of the calendar, also those around dates that do not exist.
func TestAllDates(t *testing.T) {
	next := 1
	for year := -1; year <= lastYear+2; year++ {
		for month := -1; month <= 14; month++ {
			for day := -1; day <= 33; day++ {
				n, e := calendar.Day(year, month, day)
				if !exists(year, month, day) {
					if n != 0 || e != api.ErrRange {
						t.Fatalf("P4.2: Day(%d, %d, %d) = %d, %d", year, month, day, n, e)
					}
					continue
				}
				if n != next || n != number(year, month, day) || e != api.OK {
					t.Fatalf("P4.2, P4.5: Day(%d, %d, %d) = %d, %d, want %d", year, month, day, n, e, next)
				}
				if y, m, d, e := calendar.Date(n); y != year || m != month || d != day || e != api.OK {
					t.Fatalf("P4.2, P4.5: Date(%d) = %d, %d, %d, %d, want %d, %d, %d", n, y, m, d, e, year, month, day)
				}
				if later, e := calendar.Day(year+400, month, day); year <= lastYear-400 && (later != n+146097 || e != api.OK) {
					t.Fatalf("P4.5: Day(%d, %d, %d) = %d, %d, but 400 years before it was %d", year+400, month, day, later, e, n)
				}
				next++
			}
		}
	}
	if next != lastDay+1 {
		t.Errorf("P4.2: there are %d days", next-1)
	}
}

func TestDayErrors(t *testing.T) {
	for _, x := range [][3]int{
		{0, 1, 1}, {2801, 1, 1}, {-4, 2, 29}, {1900, 2, 29}, {2100, 2, 29}, {2799, 2, 29}, {2000, 2, 30}, {2001, 4, 31},
		{1, 0, 1}, {1, 13, 1}, {1, 1, 0}, {1, 1, 32}, {1 << 32, 1, 1}, {1<<32 + 1, 1, 1}, {1, 1<<32 + 1, 1}, {1, 1, 1<<32 + 1},
	} {
		if n, e := calendar.Day(x[0], x[1], x[2]); n != 0 || e != api.ErrRange {
			t.Errorf("P4.2: Day(%v) = %d, %d", x, n, e)
		}
	}
	extremes := []int{math.MinInt, math.MinInt + 1, math.MinInt32, math.MaxInt32, math.MaxInt - 1, math.MaxInt}
	for _, n := range extremes {
		for _, x := range [][3]int{{n, 1, 1}, {1, n, 1}, {1, 1, n}, {2000, 2, n}, {n, n, n}} {
			if n, e := calendar.Day(x[0], x[1], x[2]); n != 0 || e != api.ErrRange {
				t.Errorf("P4.2: Day(%v) = %d, %d", x, n, e)
			}
		}
	}
	for _, n := range append(extremes, 0, -1, -146097, lastDay+1, lastDay+2, api.MaxDay, 1<<32+1) {
		if y, m, d, e := calendar.Date(n); y != 0 || m != 0 || d != 0 || e != api.ErrRange {
			t.Errorf("P4.2: Date(%d) = %d, %d, %d, %d", n, y, m, d, e)
		}
	}
}

func TestParse(t *testing.T) {
	for _, x := range []struct {
		text string
		want api.Span
	}{
		{"1753", span(number(1753, 1, 1), number(1753, 12, 31))},
		{"1753-04", span(639996, number(1753, 4, 30))},
		{"1753-04-11", span(640006, 640006)},
		{"0001", span(1, 365)},
		{"0001-01-01", span(1, 1)},
		{"2800", span(lastDay-365, lastDay)},
		{"2800-12-31", span(lastDay, lastDay)},
		{"2000-02", span(730151, 730179)},
		{"1900-02", span(number(1900, 2, 1), number(1900, 2, 28))},
		{"c1753", span(638079, 641731)},
		{"c0001", span(1, 5*365+1)},
		{"c0002", span(1, number(6, 12, 31))},
		{"c0005", span(1, number(9, 12, 31))},
		{"c0006", span(1, number(10, 12, 31))},
		{"c0007", span(366, number(11, 12, 31))},
		{"c2795", span(number(2790, 1, 1), number(2799, 12, 31))},
		{"c2796", span(number(2791, 1, 1), lastDay)},
		{"c2797", span(number(2792, 1, 1), lastDay)},
		{"c2800", span(number(2795, 1, 1), lastDay)},
		{"1753/1754", span(number(1753, 1, 1), number(1754, 12, 31))},
		{"1753-04/1753-04-11", span(639996, 640006)},
		{"1753-04-11/1753", span(640006, number(1753, 12, 31))},
		{"1753/1753-04-11", span(number(1753, 1, 1), 640006)},
		{"1753-04/1753-04", span(639996, number(1753, 4, 30))},
		{"1753-04-11/1753-04-11", span(640006, 640006)},
		{"1753-12/1753", span(number(1753, 12, 1), number(1753, 12, 31))},
		{"0001/2800", span(1, lastDay)},
		{"0001-01-01/2800-12-31", span(1, lastDay)},
	} {
		if s, e := calendar.Parse(x.text); s != x.want || e != api.OK {
			t.Errorf("P4.3: Parse(%q) = %v, %d, want %v", x.text, s, e, x.want)
		}
	}
}

func TestParseErrors(t *testing.T) {
	forms := []string{
		"", "c", "/", "-", "1", "17", "175", "17530", "175a", "1753-4", "1753-", "1753-004", "1753-04-1", "1753-04-", "1753-04-001",
		"1753-04-11-", "1753-04-11-01", "1753-04-11/", "1753/", "/1753", "1753//1754", "1753/1754/", "1753/1754/1755", "1753/175",
		"1753/1754-1", "1753/1754-", "175/1754", "c175", "c17530", "c1753-04", "c1753-04-11", "c1753/1754", "c1753/c1754", "1753/c1754",
		"cc1753", "C1753", "1753c", "c 1753", " 1753", "1753 ", "1753 / 1754", "1753-04-11T", "+753", "-753", "1753-+4", "1753--4",
		"1753/04", "1753/04/11", "175304", "17530411", "1753.04.11", "1753_04", "1753\x00", "\x001753", "1753\n", "0x75", "1e03",
		"１７５３", "١٧٥٣", "1753\u201304", "c1753\xff", "175/", "1753-0/", "1753-04-0a", ":753", "1753-0:", "/753",
		// These are wrong in both ways, and the form counts.
		"0000-", "2801-1", "9999/175", "1753-13-1", "1753-02-30x", "1754/1753/", "c0000-", "c2801/1753", "1753-13/x", "1754/1753-1",
		strings.Repeat("1", 1000), strings.Repeat("1753/", 1000), strings.Repeat("1753-04-", 1000), strings.Repeat("c", 1000),
	}
	for _, text := range forms {
		if s, e := calendar.Parse(text); s != (api.Span{}) || e != api.ErrForm {
			t.Errorf("P4.3: Parse(%q) = %v, %d, want ErrForm", text, s, e)
		}
	}
	ranges := []string{
		"0000", "2801", "9999", "1753-00", "1753-13", "1753-99", "0000-01", "2801-01", "1753-01-00", "1753-01-32", "1753-04-31",
		"1753-02-29", "1900-02-29", "2000-02-30", "1753-13-01", "1753-00-01", "2801-01-01", "0000-12-31", "c0000", "c2801", "c2805",
		"c9999", "1754/1753", "1753-05/1753-04", "1753-04-12/1753-04-11", "1753-05/1753-04-30", "1753-05-01/1753-04", "1754-01-01/1753",
		"1754/1753-12-31", "0000/1753", "1753/2801", "1753/1753-13", "1753/1753-02-29", "1753-02-29/1753", "2801/0000", "9999/0000",
	}
	for _, text := range ranges {
		if s, e := calendar.Parse(text); s != (api.Span{}) || e != api.ErrRange {
			t.Errorf("P4.3: Parse(%q) = %v, %d, want ErrRange", text, s, e)
		}
	}
}

var form = regexp.MustCompile(`^(?:(c)([0-9]{4})|([0-9]{4})(?:-([0-9]{2})(?:-([0-9]{2}))?)?(?:/([0-9]{4})(?:-([0-9]{2})(?:-([0-9]{2}))?)?)?)$`)

// defined reads a text as the chapter says, by a regular expression and the calendar of the Go library.
func defined(text string) (api.Span, api.Errno) {
	found := form.FindStringSubmatch(text)
	if found == nil {
		return api.Span{}, api.ErrForm
	}
	parts := make([]int, len(found))
	for i, part := range found {
		parts[i] = -1
		if i > 1 && part != "" {
			parts[i], _ = strconv.Atoi(part)
		}
	}
	if year := parts[2]; found[1] == "c" {
		if !exists(year, 1, 1) {
			return api.Span{}, api.ErrRange
		}
		return span(number(max(1, year-5), 1, 1), number(min(lastYear, year+4), 12, 31)), api.OK
	}
	from, to, ok := daysOf(parts[3], parts[4], parts[5])
	if parts[6] >= 0 {
		var other bool
		_, to, other = daysOf(parts[6], parts[7], parts[8])
		ok = ok && other
	}
	if !ok || from > to {
		return api.Span{}, api.ErrRange
	}
	return span(from, to), api.OK
}

// daysOf returns the first and the last day of a date; the month or the day is -1 if there is none.
func daysOf(year, month, day int) (int, int, bool) {
	switch {
	case month < 0 && exists(year, 1, 1):
		return number(year, 1, 1), number(year, 12, 31), true
	case month >= 0 && day < 0 && exists(year, month, 1):
		return number(year, month, 1), number(year, month+1, 0), true
	case month >= 0 && day >= 0 && exists(year, month, day):
		return number(year, month, day), number(year, month, day), true
	}
	return 0, 0, false
}

// agrees checks a text by what the chapter says, and that Print finds no longer one.
func agrees(t *testing.T, text string) api.Errno {
	t.Helper()
	want, code := defined(text)
	s, e := calendar.Parse(text)
	if s != want || e != code {
		t.Fatalf("P4.3: Parse(%q) = %v, %d, want %v, %d", text, s, e, want, code)
	}
	if e != api.OK {
		return e
	}
	printed := calendar.Print(s)
	if again, e := calendar.Parse(printed); again != s || e != api.OK {
		t.Fatalf("P4.6: Parse(%q) = %v, %d, want %v", printed, again, e, s)
	}
	if len(printed) > len(text) {
		t.Fatalf("P4.6: %q is printed as %q", text, printed)
	}
	return e
}

// TestAllNumbers reads all years and months of four and two digits, and days around those that exist.
func TestAllNumbers(t *testing.T) {
	for year := range 10000 {
		text := fmt.Sprintf("%04d", year)
		agrees(t, text)
		agrees(t, "c"+text)
		agrees(t, "0001/"+text)
		agrees(t, text+"/2800")
	}
	for year := 1895; year <= 2005; year++ {
		for month := range 100 {
			agrees(t, fmt.Sprintf("%04d-%02d", year, month))
			agrees(t, fmt.Sprintf("%04d/%04d-%02d", year, year, month))
			agrees(t, fmt.Sprintf("%04d-%02d/%04d", year, month, year))
		}
		for month := range 14 {
			for day := range 34 {
				agrees(t, fmt.Sprintf("%04d-%02d-%02d", year, month, day))
			}
		}
	}
	for day := range 100 {
		agrees(t, fmt.Sprintf("1753-04-%02d", day))
	}
}

// TestRandomTexts reads texts made of likely parts, and others that are a little different.
func TestRandomTexts(t *testing.T) {
	r := rand.New(rand.NewSource(1))
	date := func() string {
		text := fmt.Sprintf("%04d", r.Intn(2803))
		if r.Intn(2) == 0 {
			text = "175" + strconv.Itoa(r.Intn(10))
		}
		for _, most := range []int{14, 33} {
			if r.Intn(3) == 0 {
				break
			}
			text += fmt.Sprintf("-%02d", r.Intn(most))
		}
		return text
	}
	codes := map[api.Errno]int{}
	for range 200000 {
		text := date()
		if r.Intn(2) == 0 {
			text += "/" + date()
		}
		if r.Intn(8) == 0 {
			text = "c" + text
		}
		codes[agrees(t, text)]++
		b := []byte(text)
		b[r.Intn(len(b))] = "0123456789-/c :"[r.Intn(15)]
		codes[agrees(t, string(b))]++
		at := r.Intn(len(b))
		codes[agrees(t, text[:at]+text[at+1:])]++
		codes[agrees(t, text[:at]+string(b[at])+text[at:])]++
	}
	for _, e := range []api.Errno{api.OK, api.ErrForm, api.ErrRange} {
		if codes[e] < 10000 {
			t.Errorf("only %d texts with the code %d", codes[e], e)
		}
	}
}

func TestPrint(t *testing.T) {
	for _, x := range []struct {
		s    api.Span
		want string
	}{
		{span(638079, 641731), "c1753"},
		{span(639996, 640006), "1753-04/1753-04-11"},
		{span(1, 1), "0001-01-01"},
		{span(1, 31), "0001-01"},
		{span(1, 365), "0001"},
		{span(1, 32), "0001/0001-02-01"},
		{span(1, 59), "0001/0001-02"},
		{span(2, 365), "0001-01-02/0001"},
		{span(32, 365), "0001-02/0001"},
		{span(335, 365), "0001-12"},
		{span(365, 365), "0001-12-31"},
		{span(365, 366), "0001-12-31/0002-01-01"},
		{span(335, 396), "0001-12/0002-01"},
		{span(1, number(5, 12, 31)), "c0001"},
		{span(1, number(10, 12, 31)), "c0006"},
		{span(1, number(4, 12, 31)), "0001/0004"},
		{span(1, number(11, 12, 31)), "0001/0011"},
		{span(number(2795, 1, 1), lastDay), "c2800"},
		{span(number(2791, 1, 1), lastDay), "c2796"},
		{span(number(2796, 1, 1), lastDay), "2796/2800"},
		{span(number(2790, 1, 1), lastDay), "2790/2800"},
		{span(number(1748, 1, 1), number(1756, 12, 31)), "1748/1756"},
		{span(number(1748, 1, 1), number(1757, 12, 30)), "1748/1757-12-30"},
		{span(1, lastDay), "0001/2800"},
		{span(lastDay, lastDay), "2800-12-31"},
	} {
		if text := calendar.Print(x.s); text != x.want {
			t.Errorf("P4.4: Print(%v) = %q, want %q", x.s, text, x.want)
		}
	}
}

// someDates are texts of dates of the first years, of some in the middle and of the last ones: all years and months, and the days around the ends of months.
func someDates() []string {
	var l []string
	for _, years := range [][2]int{{1, 12}, {1896, 1904}, {2789, lastYear}} {
		for year := years[0]; year <= years[1]; year++ {
			l = append(l, fmt.Sprintf("%04d", year))
			for _, month := range []int{1, 2, 3, 11, 12} {
				l = append(l, fmt.Sprintf("%04d-%02d", year, month))
				for _, day := range []int{1, 2, number(year, month+1, 0) - number(year, month, 0)} {
					l = append(l, fmt.Sprintf("%04d-%02d-%02d", year, month, day))
				}
			}
		}
	}
	return l
}

// TestShortest collects the shortest texts of many spans, of which each has to have one alone, and compares Print with them.
func TestShortest(t *testing.T) {
	shortest := map[api.Span]string{}
	twice := map[api.Span]bool{}
	note := func(s api.Span, text string) {
		old, ok := shortest[s]
		if !ok || len(text) < len(old) {
			shortest[s], twice[s] = text, false
		} else if len(text) == len(old) {
			twice[s] = true
		}
	}
	dates := someDates()
	spans := make([]api.Span, len(dates))
	for i, text := range dates {
		spans[i], _ = defined(text)
		note(spans[i], text)
	}
	for year := 1; year <= lastYear; year++ {
		text := fmt.Sprintf("c%04d", year)
		s, _ := defined(text)
		note(s, text)
	}
	for i, first := range dates {
		for j, last := range dates {
			if spans[i].From <= spans[j].To {
				note(span(spans[i].From, spans[j].To), first+"/"+last)
			}
		}
	}
	for s, want := range shortest {
		if text := calendar.Print(s); text != want || twice[s] {
			t.Fatalf("P4.4: Print(%v) = %q, want %q, with others of the same length: %v", s, text, want, twice[s])
		}
	}
}

// TestPrintEverything prints all days, months and years, and random spans, and reads them again.
func TestPrintEverything(t *testing.T) {
	check := func(s api.Span, length int) {
		text := calendar.Print(s)
		if again, e := calendar.Parse(text); again != s || e != api.OK || length > 0 && len(text) != length {
			t.Fatalf("P4.6: %v is printed as %q, which is read as %v, %d", s, text, again, e)
		}
	}
	for n := 1; n <= lastDay; n++ {
		check(span(n, n), len("1753-04-11"))
	}
	for year := 1; year <= lastYear; year++ {
		check(span(number(year, 1, 1), number(year, 12, 31)), len("1753"))
		for month := 1; month <= 12; month++ {
			check(span(number(year, month, 1), number(year, month+1, 0)), len("1753-04"))
		}
	}
	r := rand.New(rand.NewSource(2))
	for range 300000 {
		from := 1 + r.Intn(lastDay)
		check(span(from, from+r.Intn(min(lastDay-from+1, 1<<r.Intn(21)))), 0)
	}
}
