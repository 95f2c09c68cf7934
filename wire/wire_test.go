package wire_test

import (
	"bytes"
	"math"
	"math/big"
	"math/rand"
	"runtime"
	"slices"
	"strings"
	"testing"

	"wordbook/api"
	"wordbook/wire"
)

// tooLong is the encoding of 2^56, a length that no test input has.
var tooLong = []byte{136, 1, 0, 0, 0, 0, 0, 0, 0}

// someInts returns the integers around all powers of 2 and some others, increasing and without repetitions.
func someInts() []int {
	l := []int{math.MinInt, math.MaxInt}
	for shift := range 63 {
		for d := -2; d <= 2; d++ {
			l = append(l, 1<<shift+d, -(1<<shift)+d)
		}
	}
	r := rand.New(rand.NewSource(1))
	for range 500 {
		l = append(l, int(r.Uint64()>>r.Intn(64)), -int(r.Uint64()>>r.Intn(64)))
	}
	slices.Sort(l)
	return slices.Compact(l)
}

// defined encodes an integer as P1.1 says, by the arithmetic of package big.
func defined(n int) []byte {
	m := big.NewInt(int64(n))
	if n >= 0 {
		return append([]byte{byte(128 + len(m.Bytes()))}, m.Bytes()...)
	}
	m.Sub(big.NewInt(-1), m)
	b := []byte{byte(127 - len(m.Bytes()))}
	for _, c := range m.Bytes() {
		b = append(b, 255-c)
	}
	return b
}

func TestInt(t *testing.T) {
	for _, x := range []struct {
		n    int
		want []byte
	}{
		{0, []byte{128}},
		{1, []byte{129, 1}},
		{255, []byte{129, 255}},
		{256, []byte{130, 1, 0}},
		{65535, []byte{130, 255, 255}},
		{65536, []byte{131, 1, 0, 0}},
		{-1, []byte{127}},
		{-2, []byte{126, 254}},
		{-256, []byte{126, 0}},
		{-257, []byte{125, 254, 255}},
		{math.MaxInt, []byte{136, 127, 255, 255, 255, 255, 255, 255, 255}},
		{math.MinInt, []byte{119, 128, 0, 0, 0, 0, 0, 0, 0}},
	} {
		if b := wire.Int(x.n); !bytes.Equal(b, x.want) {
			t.Errorf("P1.1: Int(%d) = %v, want %v", x.n, b, x.want)
		}
	}
	for _, n := range someInts() {
		if b := wire.Int(n); !bytes.Equal(b, defined(n)) {
			t.Errorf("P1.1: Int(%d) = %v, want %v", n, b, defined(n))
		}
	}
}

func TestGetInt(t *testing.T) {
	for _, n := range someInts() {
		b := defined(n)
		for _, rest := range [][]byte{nil, {0}, {255, 128, 7}} {
			got, used, e := wire.GetInt(slices.Concat(b, rest))
			if got != n || used != len(b) || e != api.OK {
				t.Errorf("P1.2: GetInt(%v and %v) = %d, %d, %d, want %d", b, rest, got, used, e, n)
			}
		}
	}
}

func TestGetIntErrors(t *testing.T) {
	for _, x := range []struct {
		name string
		b    []byte
		want api.Errno
	}{
		{"no bytes", nil, api.ErrMore},
		{"k is 9, negative", []byte{118, 1, 1, 1, 1, 1, 1, 1, 1, 1}, api.ErrForm},
		{"k is 9", []byte{137, 1, 1, 1, 1, 1, 1, 1, 1, 1}, api.ErrForm},
		{"the form is checked before the length, negative", []byte{118}, api.ErrForm},
		{"the form is checked before the length", []byte{137}, api.ErrForm},
		{"the least first byte", []byte{0}, api.ErrForm},
		{"the greatest first byte", []byte{255}, api.ErrForm},
		{"one byte is missing", []byte{130, 1}, api.ErrMore},
		{"one byte is missing, negative", []byte{125, 1}, api.ErrMore},
		{"all bytes are missing", []byte{136}, api.ErrMore},
		{"all bytes are missing, negative", []byte{119}, api.ErrMore},
		{"the length is checked before a leading zero", []byte{130, 0}, api.ErrMore},
		{"the length is checked before a leading zero, negative", []byte{125, 255}, api.ErrMore},
		{"a leading zero", []byte{129, 0}, api.ErrForm},
		{"a leading zero of two bytes", []byte{130, 0, 255}, api.ErrForm},
		{"a leading zero, negative", []byte{126, 255}, api.ErrForm},
		{"a leading zero of two bytes, negative", []byte{125, 255, 0}, api.ErrForm},
		{"2^63", []byte{136, 128, 0, 0, 0, 0, 0, 0, 0}, api.ErrForm},
		{"2^64-1", []byte{136, 255, 255, 255, 255, 255, 255, 255, 255}, api.ErrForm},
		{"-1-2^63", []byte{119, 127, 255, 255, 255, 255, 255, 255, 255}, api.ErrForm},
		{"-2^64", []byte{119, 0, 0, 0, 0, 0, 0, 0, 0}, api.ErrForm},
	} {
		if n, used, e := wire.GetInt(x.b); n != 0 || used != 0 || e != x.want {
			t.Errorf("P1.2: %s: GetInt(%v) = %d, %d, %d, want %d", x.name, x.b, n, used, e, x.want)
		}
	}
	for first := range 256 {
		b := bytes.Repeat([]byte{1}, 9)
		if first < 128 {
			b = bytes.Repeat([]byte{254}, 9)
		}
		b[0] = byte(first)
		want := api.ErrForm
		if 119 <= first && first <= 136 {
			want = api.OK
		}
		if _, _, e := wire.GetInt(b); e != want {
			t.Errorf("P1.2: the first byte %d: %d, want %d", first, e, want)
		}
	}
}

func TestBytes(t *testing.T) {
	for _, x := range []struct {
		s    string
		want []byte
	}{
		{"", []byte{128}},
		{"ab", []byte{129, 2, 97, 98}},
		{"\x00\xff", []byte{129, 2, 0, 255}},
		{strings.Repeat("x", 300), append([]byte{130, 1, 44}, strings.Repeat("x", 300)...)},
	} {
		if b := wire.Bytes(x.s); !bytes.Equal(b, x.want) {
			t.Errorf("P1.3: Bytes(%q) = %v", x.s, b)
		}
		s, used, e := wire.GetBytes(append(slices.Clone(x.want), 1, 2))
		if s != x.s || used != len(x.want) || e != api.OK {
			t.Errorf("P1.3: GetBytes(%v) = %q, %d, %d", x.want, s, used, e)
		}
	}
}

// A bad input of a decoder of lists or byte strings, with the error that it has to return.
type bad struct {
	name string
	b    []byte
	want api.Errno
}

// badLengths are wrong for everything that begins with a length.
func badLengths() []bad {
	return []bad{
		{"no bytes", nil, api.ErrMore},
		{"an incomplete length", []byte{130, 1}, api.ErrMore},
		{"a malformed length", []byte{129, 0}, api.ErrForm},
		{"a length of 9 bytes", []byte{137, 1}, api.ErrForm},
		{"the length -1", []byte{127, 128}, api.ErrForm},
		{"the length -257", []byte{125, 254, 255, 128}, api.ErrForm},
		{"the least length", wire.Int(math.MinInt), api.ErrForm},
		{"the greatest length", wire.Int(math.MaxInt), api.ErrMore},
		{"a length of 2^56", append(slices.Clone(tooLong), 128), api.ErrMore},
		{"nothing after the length", []byte{129, 1}, api.ErrMore},
		{"a byte less than the length", []byte{129, 3, 128, 128}, api.ErrMore},
	}
}

// refuses checks that a decoder returns the error that it has to return, and nothing else.
func refuses[T any](t *testing.T, promise string, get func([]byte) (T, int, api.Errno), size func(T) int, l []bad) {
	t.Helper()
	for _, x := range append(badLengths(), l...) {
		if v, used, e := get(x.b); size(v) != 0 || used != 0 || e != x.want {
			t.Errorf("%s: %s: decoding %v gives %v, %d, %d, want %d", promise, x.name, x.b, v, used, e, x.want)
		}
	}
}

func length[T any](l []T) int { return len(l) }

func TestErrors(t *testing.T) {
	refuses(t, "P1.3", wire.GetBytes, func(s string) int { return len(s) }, nil)
	refuses(t, "P1.4", wire.GetInts, length[int], []bad{
		{"a malformed element", []byte{129, 2, 128, 118}, api.ErrForm},
		{"an incomplete element", []byte{129, 2, 128, 129}, api.ErrMore},
		{"the first wrong element counts, malformed", []byte{129, 2, 129, 0, 130}, api.ErrForm},
		{"the first wrong element counts, incomplete", []byte{129, 2, 136, 0}, api.ErrMore},
		{"too few bytes before a malformed element", []byte{129, 3, 118, 128}, api.ErrMore},
		{"one byte for each element and not enough", []byte{129, 2, 129, 1}, api.ErrMore},
	})
	refuses(t, "P1.5", wire.GetStrings, length[string], []bad{
		{"a malformed element", []byte{129, 2, 128, 118}, api.ErrForm},
		{"a negative length of an element", []byte{129, 2, 128, 127}, api.ErrForm},
		{"an incomplete element", []byte{129, 2, 128, 129, 2, 97}, api.ErrMore},
		{"a long element", slices.Concat([]byte{129, 1}, tooLong, []byte{97}), api.ErrMore},
		{"the first wrong element counts, malformed", []byte{129, 2, 127, 130}, api.ErrForm},
		{"the first wrong element counts, incomplete", []byte{129, 2, 129, 9, 118}, api.ErrMore},
		{"too few bytes before a malformed element", []byte{129, 3, 118, 128}, api.ErrMore},
	})
	refuses(t, "P1.8", wire.GetDigests, length[api.Digest], []bad{
		{"a byte is missing", append([]byte{129, 1}, make([]byte, 15)...), api.ErrMore},
		{"a byte of the second one is missing", append([]byte{129, 2}, make([]byte, 31)...), api.ErrMore},
		{"16 times the length overflows to 0", slices.Concat([]byte{136, 16, 0, 0, 0, 0, 0, 0, 0}, make([]byte, 64)), api.ErrMore},
		{"16 times the length overflows to 16", slices.Concat([]byte{136, 16, 0, 0, 0, 0, 0, 0, 1}, make([]byte, 64)), api.ErrMore},
	})
}

func TestInts(t *testing.T) {
	for _, x := range []struct {
		l    []int
		want []byte
	}{
		{nil, []byte{128}},
		{[]int{}, []byte{128}},
		{[]int{0}, []byte{129, 1, 128}},
		{[]int{1, -1}, []byte{129, 2, 129, 1, 127}},
		{make([]int, 256), append([]byte{130, 1, 0}, bytes.Repeat([]byte{128}, 256)...)},
	} {
		if b := wire.Ints(x.l); !bytes.Equal(b, x.want) {
			t.Errorf("P1.4: Ints(%v) = %v", x.l, b)
		}
		l, used, e := wire.GetInts(append(slices.Clone(x.want), 118, 2))
		if !slices.Equal(l, x.l) || used != len(x.want) || e != api.OK {
			t.Errorf("P1.4: GetInts(%v) = %v, %d, %d", x.want, l, used, e)
		}
	}
	l := someInts()
	if got, _, e := wire.GetInts(wire.Ints(l)); !slices.Equal(got, l) || e != api.OK {
		t.Error("P1.4: many integers:", len(got), e)
	}
}

func TestStrings(t *testing.T) {
	for _, x := range []struct {
		l    []string
		want []byte
	}{
		{nil, []byte{128}},
		{[]string{}, []byte{128}},
		{[]string{""}, []byte{129, 1, 128}},
		{[]string{"", "a"}, []byte{129, 2, 128, 129, 1, 97}},
		{[]string{"\xff\x00", "", "b"}, []byte{129, 3, 129, 2, 255, 0, 128, 129, 1, 98}},
	} {
		if b := wire.Strings(x.l); !bytes.Equal(b, x.want) {
			t.Errorf("P1.5: Strings(%q) = %v", x.l, b)
		}
		l, used, e := wire.GetStrings(append(slices.Clone(x.want), 118, 2))
		if !slices.Equal(l, x.l) || used != len(x.want) || e != api.OK {
			t.Errorf("P1.5: GetStrings(%v) = %q, %d, %d", x.want, l, used, e)
		}
	}
}

func TestDigests(t *testing.T) {
	d := api.Digest{1, 2, 3, 15: 255}
	for _, x := range []struct {
		l    []api.Digest
		want []byte
	}{
		{nil, []byte{128}},
		{[]api.Digest{d}, slices.Concat([]byte{129, 1}, d[:])},
		{[]api.Digest{{}, d}, slices.Concat([]byte{129, 2}, make([]byte, 16), d[:])},
	} {
		if b := wire.Digests(x.l); !bytes.Equal(b, x.want) {
			t.Errorf("P1.8: Digests(%v) = %v", x.l, b)
		}
		l, used, e := wire.GetDigests(append(slices.Clone(x.want), 118, 2))
		if !slices.Equal(l, x.l) || used != len(x.want) || e != api.OK {
			t.Errorf("P1.8: GetDigests(%v) = %v, %d, %d", x.want, l, used, e)
		}
	}
}

// roundTrip checks P1.6 for a value: with any bytes behind it, its encoding is decoded to it, and every proper prefix is incomplete.
func roundTrip[T any](t *testing.T, v T, put func(T) []byte, get func([]byte) (T, int, api.Errno), same func(T, T) bool) {
	t.Helper()
	b := put(v)
	for _, rest := range [][]byte{nil, {0}, {127}, {128}, {129, 0}, {255, 255, 255}} {
		got, used, e := get(slices.Concat(b, rest))
		if !same(got, v) || used != len(b) || e != api.OK {
			t.Errorf("P1.6: %v with %v behind it is decoded as %v, %d, %d", v, rest, got, used, e)
		}
	}
	for i := range b {
		if _, used, e := get(b[:i]); used != 0 || e != api.ErrMore {
			t.Errorf("P1.6: the first %d bytes of the encoding of %v: %d, %d", i, v, used, e)
		}
	}
}

func TestRoundTrips(t *testing.T) {
	equal := func(m, n int) bool { return m == n }
	for _, n := range someInts() {
		roundTrip(t, n, wire.Int, wire.GetInt, equal)
	}
	for _, s := range []string{"", "a", "\x80", strings.Repeat("ab\x00", 100)} {
		roundTrip(t, s, wire.Bytes, wire.GetBytes, func(r, s string) bool { return r == s })
	}
	for _, l := range [][]int{nil, {5}, {0, -1, 256, -257}, {math.MinInt, math.MaxInt}} {
		roundTrip(t, l, wire.Ints, wire.GetInts, slices.Equal[[]int])
	}
	for _, l := range [][]string{nil, {""}, {"a", "", "xyz"}, {strings.Repeat("a", 300), "b"}} {
		roundTrip(t, l, wire.Strings, wire.GetStrings, slices.Equal[[]string])
	}
	for _, l := range [][]api.Digest{nil, {{}}, {{128, 7}, {129, 1, 0}, {15: 4}}} {
		roundTrip(t, l, wire.Digests, wire.GetDigests, slices.Equal[[]api.Digest])
	}
}

// canonical checks that whatever is decoded has the consumed bytes as its encoding, and that nothing else comes with an error.
func canonical[T any](t *testing.T, b []byte, put func(T) []byte, get func([]byte) (T, int, api.Errno), size func(T) int) {
	t.Helper()
	v, used, e := get(b)
	switch {
	case e == api.OK && (used > len(b) || !bytes.Equal(put(v), b[:used])):
		t.Errorf("P1.6: %v is decoded as %v, which has another encoding", b, v)
	case e != api.OK && e != api.ErrForm && e != api.ErrMore:
		t.Errorf("P1.6: %v is refused with %d", b, e)
	case e != api.OK && (size(v) != 0 || used != 0):
		t.Errorf("P1.6: %v gives %v and %d with the error %d", b, v, used, e)
	}
}

func TestOneEncoding(t *testing.T) {
	check := func(b []byte) {
		canonical(t, b, wire.Int, wire.GetInt, func(n int) int { return n })
		canonical(t, b, wire.Bytes, wire.GetBytes, func(s string) int { return len(s) })
		canonical(t, b, wire.Ints, wire.GetInts, length[int])
		canonical(t, b, wire.Strings, wire.GetStrings, length[string])
		canonical(t, b, wire.Digests, wire.GetDigests, length[api.Digest])
	}
	for i := range 1 << 16 {
		check([]byte{byte(i >> 8), byte(i)})
	}
	r := rand.New(rand.NewSource(2))
	likely := []byte{0, 1, 2, 3, 119, 125, 126, 127, 128, 129, 130, 131, 136, 254, 255}
	for range 50000 {
		b := make([]byte, r.Intn(40))
		for i := range b {
			b[i] = likely[r.Intn(len(likely))]
		}
		check(b)
	}
}

func TestOrder(t *testing.T) {
	l := someInts()
	for i, n := range l {
		if b := wire.Int(n); len(b) > 9 {
			t.Errorf("P1.7: Int(%d) has %d bytes", n, len(b))
		}
		for _, m := range l[i+1:] {
			if bytes.Compare(wire.Int(n), wire.Int(m)) >= 0 {
				t.Fatalf("P1.7: Int(%d) = %v, Int(%d) = %v", n, wire.Int(n), m, wire.Int(m))
			}
		}
	}
}

// TestMemory checks that nothing is written into an argument or its spare capacity, and that results share no memory.
func TestMemory(t *testing.T) {
	l := append(make([]int, 0, 8), 3, -4)
	wire.Ints(l)
	if !slices.Equal(l[:4], []int{3, -4, 0, 0}) {
		t.Error("R4: Ints changed its argument:", l[:4])
	}
	b := append(make([]byte, 0, 64), wire.Strings([]string{"ab", "cd"})...)
	before := slices.Clone(b[:64])
	s, _, _ := wire.GetStrings(b)
	if !bytes.Equal(b[:64], before) {
		t.Error("R4: GetStrings changed its argument")
	}
	clear(b)
	if !slices.Equal(s, []string{"ab", "cd"}) {
		t.Errorf("R4: the result of GetStrings changed with its argument: %q", s)
	}
	first := wire.Int(7)
	first[0], first[1] = 0, 0
	if again := wire.Int(7); !bytes.Equal(again, []byte{129, 7}) {
		t.Error("R4: the results of Int share memory:", again)
	}
}

// allocated returns how many bytes a call allocates.
func allocated(call func()) uint64 {
	var before, after runtime.MemStats
	runtime.ReadMemStats(&before)
	call()
	runtime.ReadMemStats(&after)
	return after.TotalAlloc - before.TotalAlloc
}

func TestAllocation(t *testing.T) {
	const limit = 1 << 16
	for n := 1; n <= 1<<62 && n > 0; n <<= 1 {
		for _, b := range [][]byte{wire.Int(n), append(wire.Int(n), 129, 1, 127, 128)} {
			for name, call := range map[string]func(){
				"GetBytes":   func() { wire.GetBytes(b) },
				"GetInts":    func() { wire.GetInts(b) },
				"GetStrings": func() { wire.GetStrings(b) },
				"GetDigests": func() { wire.GetDigests(b) },
			} {
				if used := allocated(call); used > limit {
					t.Errorf("%s of %v allocates %d bytes", name, b, used)
				}
			}
		}
	}
	b := wire.Strings(make([]string, 1<<16))
	if used := allocated(func() { wire.GetStrings(b) }); used > 200*uint64(len(b)) {
		t.Errorf("GetStrings of %d bytes allocates %d bytes", len(b), used)
	}
}
