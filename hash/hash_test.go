package hash_test

import (
	"bytes"
	"crypto/hmac"
	"crypto/sha256"
	"encoding/hex"
	"math"
	"math/rand"
	"slices"
	"strings"
	"testing"

	"wordbook/api"
	"wordbook/hash"
	"wordbook/wire"
)

// unhex returns the bytes that hexadecimal digits stand for.
func unhex(t *testing.T, digits string) string {
	t.Helper()
	b, err := hex.DecodeString(digits)
	if err != nil {
		t.Fatal(err)
	}
	return string(b)
}

// someText returns n bytes without a pattern.
func someText(n int) string {
	b := make([]byte, n)
	rand.New(rand.NewSource(int64(n))).Read(b)
	return string(b)
}

// known are messages with their hashes, those of the chapter and those that the standard for SHA-256 names.
func known() []struct{ text, sum string } {
	return []struct{ text, sum string }{
		{"", "e3b0c44298fc1c149afbf4c8996fb92427ae41e4649b934ca495991b7852b855"},
		{"abc", "ba7816bf8f01cfea414140de5dae2223b00361a396177a9cb410ff61f20015ad"},
		{"abcdbcdecdefdefgefghfghighijhijkijkljklmklmnlmnomnopnopq", "248d6a61d20638b8e5c026930c3e6039a33ce45964ff2167f6ecedd419db06c1"},
		{"abcdefghbcdefghicdefghijdefghijkefghijklfghijklmghijklmnhijklmnoijklmnopjklmnopqklmnopqrlmnopqrsmnopqrstnopqrstu", "cf5b16a778af8380036ce59e7b0492370b249b11e8f07a51afac45037afee9d1"},
		{strings.Repeat("a", 1000000), "cdc76e5c9914fb9281a1c7e284d73e67f1809a48a497200e046d39ccc7112cd0"},
	}
}

func TestSum(t *testing.T) {
	for _, x := range known() {
		if sum := hash.Sum([]byte(x.text)); string(sum[:]) != unhex(t, x.sum) {
			t.Errorf("P2.1: Sum of %d bytes = %x, want %s", len(x.text), sum, x.sum)
		}
	}
	if sum := hash.Sum(nil); sum != hash.Sum([]byte{}) {
		t.Errorf("P2.1: Sum(nil) = %x", sum)
	}
	// The padding has another form for each length of the last block.
	for n := range 300 {
		b := []byte(someText(n))
		if sum := hash.Sum(b); sum != sha256.Sum256(b) {
			t.Errorf("P2.1: Sum of %d bytes = %x, want %x", n, sum, sha256.Sum256(b))
		}
		if sum := hash.Sum(make([]byte, n)); sum != sha256.Sum256(make([]byte, n)) {
			t.Errorf("P2.1: Sum of %d zero bytes = %x", n, sum)
		}
		if sum, all := hash.Sum(bytes.Repeat([]byte{255}, n)), sha256.Sum256(bytes.Repeat([]byte{255}, n)); sum != all {
			t.Errorf("P2.1: Sum of %d bytes 255 = %x", n, sum)
		}
	}
}

// TestLength hashes a message whose length in bits needs more than 32 bits.
func TestLength(t *testing.T) {
	piece := strings.Repeat("wordbook", 1<<18)
	s, want := hash.Begin(), sha256.New()
	for range 1<<29/len(piece) + 1 {
		s = s.Add(piece)
		want.Write([]byte(piece))
	}
	if sum := s.Sum(); !bytes.Equal(sum[:], want.Sum(nil)) {
		t.Errorf("P2.1: the sum of a long message is %x, want %x", sum, want.Sum(nil))
	}
}

func TestStream(t *testing.T) {
	if sum := hash.Begin().Sum(); sum != hash.Sum(nil) {
		t.Errorf("P2.2: Begin().Sum() = %x", sum)
	}
	want := unhex(t, "ba7816bf8f01cfea414140de5dae2223b00361a396177a9cb410ff61f20015ad")
	if sum := hash.Begin().Add("a").Add("bc").Sum(); string(sum[:]) != want {
		t.Errorf("P2.2: the sum of a and bc is %x", sum)
	}
	if sum := hash.Begin().Add("").Add("abc").Add("").Sum(); string(sum[:]) != want {
		t.Errorf("P2.2: pieces without bytes change the sum to %x", sum)
	}
}

// TestBranches continues every stream twice, sums it in between, and checks that it has not changed.
func TestBranches(t *testing.T) {
	text := someText(200)
	for n := range len(text) {
		s := hash.Begin().Add(text[:n])
		before := s.Sum()
		for _, more := range []string{"", "x", text[n:], strings.Repeat("y", 64), strings.Repeat("z", 130)} {
			if sum := s.Add(more).Sum(); sum != sha256.Sum256([]byte(text[:n]+more)) {
				t.Errorf("P2.2: %d bytes continued by %d bytes have the sum %x", n, len(more), sum)
			}
			if sum := s.Sum(); sum != before {
				t.Errorf("P2.2: a stream of %d bytes changed by adding %d bytes to another one", n, len(more))
			}
		}
		if before != sha256.Sum256([]byte(text[:n])) {
			t.Errorf("P2.2: a stream of %d bytes has the sum %x", n, before)
		}
		one, two := s.Add("one"), s.Add("two")
		if sum := one.Add("!").Sum(); sum != hash.Sum([]byte(text[:n]+"one!")) {
			t.Errorf("P2.2: the first of two streams that continue %d bytes has the sum %x", n, sum)
		}
		if sum := two.Sum(); sum != hash.Sum([]byte(text[:n]+"two")) {
			t.Errorf("P2.2: the second of two streams that continue %d bytes has the sum %x", n, sum)
		}
	}
}

func TestPieces(t *testing.T) {
	text := someText(150)
	want := hash.Sum([]byte(text))
	for i := range len(text) + 1 {
		for j := i; j <= len(text); j++ {
			if sum := hash.Begin().Add(text[:i]).Add(text[i:j]).Add(text[j:]).Sum(); sum != want {
				t.Fatalf("P2.6: the sum depends on the pieces %d, %d", i, j)
			}
		}
	}
	single := hash.Begin()
	for i := range len(text) {
		single = single.Add(text[i : i+1])
	}
	if single.Sum() != want {
		t.Error("P2.6: the sum of single bytes differs")
	}
	r := rand.New(rand.NewSource(1))
	long := someText(5000)
	for range 100 {
		s, rest := hash.Begin(), long
		for rest != "" {
			n := r.Intn(min(len(rest), 200) + 1)
			s, rest = s.Add(rest[:n]), rest[n:]
		}
		if s.Sum() != sha256.Sum256([]byte(long)) {
			t.Fatal("P2.6: the sum of a long text depends on its pieces")
		}
	}
}

func TestMac(t *testing.T) {
	for _, x := range []struct{ key, text, want string }{
		{"Jefe", "what do ya want for nothing?", "5bdcc146bf60754e6a042426089575c75a003f089d2739839dec58b964ec3843"},
		{"", "", "b613679a0814d9ec772f95d778c35fc5ff1697c493715653c6c712144292c5ad"},
		{strings.Repeat("\x0b", 20), "Hi There", "b0344c61d8db38535ca8afceaf0bf12b881dc200c9833da726e9376c2e32cff7"},
		{strings.Repeat("\xaa", 131), "Test Using Larger Than Block-Size Key - Hash Key First", "60e431591ee0b67f0d8a26aacbf5b77f8e0bc6213728c5140546040f0ee37f54"},
	} {
		if code := hash.Mac(x.key, x.text); code != unhex(t, x.want) {
			t.Errorf("P2.3: Mac(%q, %q) = %x, want %s", x.key, x.text, code, x.want)
		}
	}
	for _, keys := range []int{0, 1, 31, 32, 33, 63, 64, 65, 66, 128, 200} {
		for _, texts := range []int{0, 1, 55, 56, 63, 64, 65, 300} {
			key, text := someText(keys), someText(texts)
			h := hmac.New(sha256.New, []byte(key))
			h.Write([]byte(text))
			if code := hash.Mac(key, text); code != string(h.Sum(nil)) {
				t.Errorf("P2.3: a key of %d bytes and a text of %d bytes: %x", keys, texts, code)
			}
		}
	}
}

// TestMacKeys checks which keys count as the same: a short one is extended by zero bytes, and a long one is replaced by its sum.
func TestMacKeys(t *testing.T) {
	full, long := someText(64), someText(65)
	sum, sumFull := hash.Sum([]byte(long)), hash.Sum([]byte(full))
	for _, x := range []struct {
		name, key, other string
		same             bool
	}{
		{"a zero byte behind a short key", "k", "k\x00", true},
		{"a key extended to 64 bytes", "k", "k" + strings.Repeat("\x00", 63), true},
		{"a key extended to 65 bytes", "k", "k" + strings.Repeat("\x00", 64), false},
		{"a key of 65 bytes and its sum", long, string(sum[:]), true},
		{"a key of 64 bytes and its sum", full, string(sumFull[:]), false},
		{"a key of 65 bytes and its first 64 bytes", long, long[:64], false},
	} {
		if same := hash.Mac(x.key, "text") == hash.Mac(x.other, "text"); same != x.same {
			t.Errorf("P2.3: %s: the same code: %v, want %v", x.name, same, x.same)
		}
	}
}

// input returns what Of hashes, as P2.4 says.
func input(tag byte, parts []string) []byte {
	b := []byte{tag}
	for _, part := range parts {
		b = append(b, wire.Bytes(part)...)
	}
	return b
}

// lists are different lists of parts, many of which are the same when their parts are written one after the other.
func lists() [][]string {
	return [][]string{
		nil, {""}, {"", ""}, {"a"}, {"a", ""}, {"", "a"}, {"ab"}, {"a", "b"}, {"a", "b", ""}, {"b", "a"},
		{"\x80"}, {"\x80", ""}, {"\x81\x01a"}, {"a\x81\x01b"}, {"\x00"}, {"a\x00"}, {"a", "\x00"},
		{strings.Repeat("a", 300)}, {strings.Repeat("a", 255), strings.Repeat("a", 45)}, {strings.Repeat("a", 256), strings.Repeat("a", 44)},
	}
}

func TestOf(t *testing.T) {
	for _, x := range []struct {
		got  api.Digest
		want string
	}{
		{hash.Of(1), "4bf5122f344554c53bde2ebb8cd2b7e3"},
		{hash.Of(0), "6e340b9cffb37a989ca544e6bb780a2c"},
		{hash.Of(8, "a", ""), "36cd50850329f88406e31bb8a7d8fb62"},
	} {
		if string(x.got[:]) != unhex(t, x.want) {
			t.Errorf("P2.4: %x, want %s", x.got, x.want)
		}
	}
	for _, tag := range []int{0, 1, 2, 8, 127, 128, 255, 256, 257, 300, -1, -2, -128, -255, -256, -257, math.MaxInt, math.MinInt, math.MinInt + 1} {
		for _, parts := range lists() {
			sum := sha256.Sum256(input(byte(((tag%256)+256)%256), parts))
			if d := hash.Of(tag, parts...); !bytes.Equal(d[:], sum[:16]) {
				t.Errorf("P2.4: Of(%d, %q) = %x, want %x", tag, parts, d, sum[:16])
			}
		}
	}
}

func TestOfTags(t *testing.T) {
	for _, x := range []struct{ tag, same int }{
		{-1, 255}, {-256, 0}, {-255, 1}, {256, 0}, {511, 255}, {math.MaxInt, 255}, {math.MinInt, 0},
	} {
		if hash.Of(x.tag, "a") != hash.Of(x.same, "a") {
			t.Errorf("P2.4: the tag %d is not %d", x.tag, x.same)
		}
	}
}

// TestDifferent checks that different inputs of Of have different digests.
func TestDifferent(t *testing.T) {
	from := map[api.Digest]string{}
	for tag := range 256 {
		for _, parts := range lists() {
			d, name := hash.Of(tag, parts...), string(input(byte(tag), parts))
			if other, ok := from[d]; ok {
				t.Errorf("P2.6: %q and %q have the same digest", other, name)
			}
			from[d] = name
		}
	}
}

func TestEqual(t *testing.T) {
	for _, x := range []struct {
		a, b string
		want bool
	}{
		{"ab", "ab", true},
		{"ab", "ac", false},
		{"ab", "bb", false},
		{"", "", true},
		{"", "a", false},
		{"a", "", false},
		{"a", "ab", false},
		{"ab", "a", false},
		{"a", "a\x00", false},
		{"\x00", "\x80", false},
		{"ab", "ba", false},
		{"\x01\x02", "\x02\x01", false},
		{"\x01\x01", "\x02\x02", false},
		{"aB", "ab", false},
		{"\xff\xfe", "\xff\xfe", true},
	} {
		if hash.Equal(x.a, x.b) != x.want {
			t.Errorf("P2.5: Equal(%q, %q) = %v", x.a, x.b, !x.want)
		}
	}
	code := []byte(someText(32))
	for i := range code {
		for bit := range 8 {
			other := slices.Clone(code)
			other[i] ^= 1 << bit
			if hash.Equal(string(code), string(other)) {
				t.Errorf("P2.5: a difference in bit %d of byte %d is not seen", bit, i)
			}
		}
	}
}

// TestArguments checks that arguments and their spare capacity stay as they are, and that nothing is kept from call to call.
func TestArguments(t *testing.T) {
	for _, n := range []int{0, 1, 55, 56, 63, 64, 100} {
		b := append(make([]byte, 0, 256), someText(n)...)
		before := slices.Clone(b[:256])
		first := hash.Sum(b)
		if !bytes.Equal(b[:256], before) {
			t.Errorf("R4: Sum changed its argument of %d bytes", n)
		}
		hash.Sum([]byte("other"))
		hash.Mac("key", "other")
		if hash.Sum(b) != first {
			t.Errorf("R5: Sum of %d bytes depends on earlier calls", n)
		}
	}
	parts := append(make([]string, 0, 4), "a", "b")
	hash.Of(1, parts...)
	if !slices.Equal(parts[:4], []string{"a", "b", "", ""}) {
		t.Errorf("R4: Of changed its argument: %q", parts[:4])
	}
	first := hash.Sum([]byte("abc"))
	first[0]++
	if again := hash.Sum([]byte("abc")); again[0] == first[0] {
		t.Error("R4: the results of Sum share memory")
	}
}
