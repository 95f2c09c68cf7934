package sign_test

import (
	"bytes"
	"crypto/hmac"
	"crypto/sha256"
	"encoding/hex"
	"fmt"
	"math"
	"math/rand"
	"slices"
	"strings"
	"testing"

	"wordbook/api"
	"wordbook/sign"
	"wordbook/wire"
)

const maxMessage = 1 << 20

var (
	zeroSeed   = strings.Repeat("\x00", 32)
	countSeed  = "\x00\x01\x02\x03\x04\x05\x06\x07\x08\x09\x0a\x0b\x0c\x0d\x0e\x0f\x10\x11\x12\x13\x14\x15\x16\x17\x18\x19\x1a\x1b\x1c\x1d\x1e\x1f"
	officeSeed = "the seed of an office, 32 bytes."
)

// of is hash.Of as its chapter defines it, by the Go library's SHA-256.
func of(tag byte, parts ...string) string {
	b := []byte{tag}
	for _, part := range parts {
		b = append(b, wire.Bytes(part)...)
	}
	sum := sha256.Sum256(b)
	return string(sum[:16])
}

// chainValue is the value of a chain at a height, as the chapter defines it.
func chainValue(seed string, i, c, height int) string {
	h := hmac.New(sha256.New, []byte(seed))
	h.Write([]byte("chain" + string(wire.Ints([]int{i, c}))))
	value := string(h.Sum(nil)[:16])
	for t := range height {
		value = of(api.TagChain, string(wire.Ints([]int{i, c, t})), value)
	}
	return value
}

// levels are all nodes of a tree, as the chapter defines them: those of level 0 first.
func levels(seed string, height int) [][]string {
	l := [][]string{nil}
	for i := range 1 << height {
		tops := ""
		for c := range 68 {
			tops += chainValue(seed, i, c, 3)
		}
		l[0] = append(l[0], of(api.TagLeaf, of(api.TagKey, tops)))
	}
	for level := range height {
		var above []string
		for k := range len(l[level]) / 2 {
			above = append(above, of(api.TagNode, l[level][2*k], l[level][2*k+1]))
		}
		l = append(l, above)
	}
	return l
}

// digits are the digits of a digest as the chapter defines them.
func digits(d string) []int {
	var l []int
	sum := 0
	for _, b := range []byte(d) {
		l = append(l, int(b/64), int(b/16%4), int(b/4%4), int(b%4))
	}
	for _, x := range l {
		sum += 3 - x
	}
	return append(l, sum/64, sum/16%4, sum/4%4, sum%4)
}

// signed is the signature of a message by the tree with these nodes, as the chapter defines it.
func signed(seed string, tree [][]string, i int, message string) string {
	s := string(wire.Int(i))
	for c, x := range digits(of(api.TagMessage, tree[len(tree)-1][0], string(wire.Int(i)), message)) {
		s += chainValue(seed, i, c, x)
	}
	for level := range len(tree) - 1 {
		s += tree[level][(i>>level)^1]
	}
	return s
}

// public returns a public key that exists.
func public(t *testing.T, seed string, height int) api.Digest {
	t.Helper()
	d, e := sign.Public(seed, height)
	if e != api.OK {
		t.Fatalf("Public of a height %d: %d", height, e)
	}
	return d
}

// signature returns a signature that exists.
func signature(t *testing.T, seed string, height, index int, message string) string {
	t.Helper()
	s, e := sign.Sign(seed, height, index, message)
	if e != api.OK {
		t.Fatalf("Sign by the key %d of a height %d: %d", index, height, e)
	}
	return s
}

// refused checks that a signature is refused with an error and without an index.
func refused(t *testing.T, name string, public api.Digest, height int, message, signature string, want api.Errno) {
	t.Helper()
	if index, e := sign.Verify(public, height, message, signature); index != 0 || e != want {
		t.Errorf("P3.4: %s: Verify returns %d, %d, want 0, %d", name, index, e, want)
	}
}

func TestConstants(t *testing.T) {
	if sign.Chains != 68 || sign.Top != 3 || sign.MaxHeight != 6 {
		t.Error("constants:", sign.Chains, sign.Top, sign.MaxHeight)
	}
}

func TestDigits(t *testing.T) {
	d := api.Digest{0: 27, 1: 0xe4, 15: 1}
	for _, x := range []struct {
		name string
		d    api.Digest
		want []int
	}{
		{"zeros", api.Digest{}, append(make([]int, 64), 3, 0, 0, 0)},
		{"bytes 255", api.Digest(bytes.Repeat([]byte{255}, 16)), append(slices.Repeat([]int{3}, 64), 0, 0, 0, 0)},
		{"the order within a byte", d, slices.Concat([]int{0, 1, 2, 3, 3, 2, 1, 0}, make([]int, 55), []int{1}, []int{2, 3, 0, 3})},
		{"the greatest bit of each digit", api.Digest(bytes.Repeat([]byte{0xaa}, 16)), append(slices.Repeat([]int{2}, 64), 1, 0, 0, 0)},
		{"the least bit of each digit", api.Digest(bytes.Repeat([]byte{0x55}, 16)), append(slices.Repeat([]int{1}, 64), 2, 0, 0, 0)},
	} {
		if l := sign.Digits(x.d); !slices.Equal(l, x.want) {
			t.Errorf("P3.1: %s: %v, want %v", x.name, l, x.want)
		}
	}
	r := rand.New(rand.NewSource(1))
	for range 2000 {
		var d api.Digest
		r.Read(d[:])
		if l := sign.Digits(d); !slices.Equal(l, digits(string(d[:]))) {
			t.Fatalf("P3.1: the digits of %x are %v", d, l)
		}
	}
}

func TestPublic(t *testing.T) {
	for _, x := range []struct {
		seed string
		want [7]string
	}{
		{zeroSeed, [7]string{"d5aea2093d857fed3e3578719786c5e0", "1f0df544623c8c1f57c72e84b9d1514a", "84c59a351455b767d356d9fe3e26f3ad", "3fb379f79c9f466c6789f7210d738bcf", "026b2faaa6e06d1efc99bf774e3ff81a", "bc2869e67df15c2d3cb60b92f34433e1", "e8635d2b3ebbf7ea27a2dd14b2f88456"}},
		{countSeed, [7]string{"ae4b9f7117dc636d7e785bc0379b8298", "3d511e9003e6592359aedd4ddec25d8c", "32a3c5e0eee63ae20c75de138581c1fb", "86a80aae3a4f96e136d0ceb84558abb6", "94eb93658bb9e27a5d25949389a81c43", "381c3bb0ced571f7a3a0011c23fc2d01", "fa4a75f3cd42545c729cdda8e7e57862"}},
		{officeSeed, [7]string{"585437e06b187698efa96de2d561096a", "5f63845009c3a19dbe16743b43f57f0a", "785afe85c582ef9a4c996d5753a2ae2c", "e2ce41355d14b115ab15c0846a8500c0", "3c3824a76974378efa38b79345494f05", "e9bb5ed1d90a4c722a5de914c781fbb4", "ab2cea9f71c2128c1a9bc28a3e3b194b"}},
	} {
		for height, want := range x.want {
			if d, e := sign.Public(x.seed, height); hex.EncodeToString(d[:]) != want || e != api.OK {
				t.Errorf("P3.1: Public(%x, %d) = %x, %d, want %s", x.seed, height, d, e, want)
			}
		}
		tree := levels(x.seed, 6)
		for height := range 7 {
			if d := public(t, x.seed, height); string(d[:]) != tree[height][0] {
				t.Errorf("P3.1: Public(%x, %d) = %x is not the root as defined", x.seed, height, d)
			}
		}
	}
}

// badSigners are seeds and heights that no signer has.
func badSigners() []struct {
	seed   string
	height int
} {
	l := []struct {
		seed   string
		height int
	}{
		{zeroSeed, -1}, {zeroSeed, 7}, {zeroSeed, 8}, {zeroSeed, 62}, {zeroSeed, 63}, {zeroSeed, 64}, {zeroSeed, 65},
		{zeroSeed, math.MaxInt}, {zeroSeed, math.MinInt}, {"", -1}, {strings.Repeat("s", 31), 7},
	}
	for _, n := range []int{0, 1, 16, 31, 33, 64, 1000} {
		for _, height := range []int{0, 1, 6} {
			l = append(l, struct {
				seed   string
				height int
			}{strings.Repeat("s", n), height})
		}
	}
	return l
}

func TestPublicErrors(t *testing.T) {
	for _, x := range badSigners() {
		if d, e := sign.Public(x.seed, x.height); d != (api.Digest{}) || e != api.ErrArg {
			t.Errorf("P3.1: Public of %d bytes and the height %d = %x, %d", len(x.seed), x.height, d, e)
		}
	}
}

func TestDigest(t *testing.T) {
	count := api.Digest([]byte(countSeed[:16]))
	full := api.Digest(bytes.Repeat([]byte{255}, 16))
	for _, x := range []struct {
		public  api.Digest
		index   int
		message string
		want    string
	}{
		{api.Digest{}, 0, "", "a5a7e11e56600441c814321a53365d17"},
		{count, -1, "a", "a40a993a00b575061f381a406fdad60c"},
		{full, math.MaxInt, "\x00", "2250ae75b84afa333e1c6bc3f27e84c7"},
		{count, math.MinInt, "word", "6824f0eaa2d77d15947686440f94995f"},
		{count, 300, strings.Repeat("b", 300), "861814263045cff8654b01fc71e49093"},
	} {
		if d := sign.Digest(x.public, x.index, x.message); hex.EncodeToString(d[:]) != x.want {
			t.Errorf("P3.2: Digest(%x, %d, %.9q) = %x, want %s", x.public, x.index, x.message, d, x.want)
		}
	}
	for _, index := range []int{0, 1, 63, 64, 255, 256, -1, -256, -257, math.MaxInt, math.MinInt} {
		for _, message := range []string{"", "a", "\xff\x00", strings.Repeat("long", 1000), strings.Repeat("x", maxMessage+1)} {
			want := of(api.TagMessage, string(count[:]), string(wire.Int(index)), message)
			if d := sign.Digest(count, index, message); string(d[:]) != want {
				t.Errorf("P3.2: Digest with the index %d of %d bytes = %x, want %x", index, len(message), d, want)
			}
		}
	}
}

func TestSign(t *testing.T) {
	for _, x := range []struct {
		seed          string
		height, index int
		message       string
		size          int
		sum           string
	}{
		{zeroSeed, 0, 0, "", 1089, "bdf92e714bb2884130d6382a561a0d1afb3c450289b659b984d0dc925a9cc821"},
		{countSeed, 1, 1, "m", 1106, "ae7c2caaef005b506e22afcba5acdd7e000194202428e785e1540091e0e2ecab"},
		{countSeed, 4, 11, "word\xff\x00", 1154, "5d2147da09cd4aff3fde500682710071f18d3cb46f34cb879b0c93577c98f7f1"},
		{officeSeed, 6, 63, strings.Repeat("x", 1000), 1186, "e6fda6be796e17d7ad4e527c834dcb1a6e4b006a186eaf95ca2b6533c2e129c8"},
		{officeSeed, 6, 0, strings.Repeat("a", maxMessage), 1185, "16620bcea5700742ab9588c3aaf7d779c1f4aeb342292087254f1884d552c707"},
	} {
		s, e := sign.Sign(x.seed, x.height, x.index, x.message)
		if sum := sha256.Sum256([]byte(s)); len(s) != x.size || hex.EncodeToString(sum[:]) != x.sum || e != api.OK {
			t.Errorf("P3.3: Sign by the key %d of a height %d: %d bytes with the sum %x, %d", x.index, x.height, len(s), sum, e)
		}
	}
}

// TestSignEverywhere signs with all keys of the lower trees and with some of the highest one.
func TestSignEverywhere(t *testing.T) {
	for height := range 7 {
		tree := levels(countSeed, height)
		step := max(1, 1<<height/9)
		for index := 0; index < 1<<height; index += step {
			for _, message := range []string{"", fmt.Sprint("patch ", index)} {
				if s := signature(t, countSeed, height, index, message); s != signed(countSeed, tree, index, message) {
					t.Errorf("P3.3: the signature of %q by the key %d of a height %d is not the one that is defined", message, index, height)
				}
			}
		}
	}
}

func TestSignErrors(t *testing.T) {
	long := strings.Repeat("x", maxMessage+1)
	for _, x := range badSigners() {
		for _, index := range []int{-1, 0, 1 << 40} {
			for _, message := range []string{"", long} {
				if s, e := sign.Sign(x.seed, x.height, index, message); s != "" || e != api.ErrArg {
					t.Errorf("P3.3: Sign with %d bytes, the height %d and the index %d: %d bytes, %d", len(x.seed), x.height, index, len(s), e)
				}
			}
		}
	}
	for height := range 7 {
		for _, index := range []int{-1, -2, 1 << height, 1<<height + 1, 64, 1 << 32, 1 << 62, math.MaxInt, math.MinInt} {
			for _, message := range []string{"", long} {
				if s, e := sign.Sign(zeroSeed, height, index, message); s != "" || e != api.ErrSpent {
					t.Errorf("P3.3: Sign by the key %d of a height %d: %d bytes, %d", index, height, len(s), e)
				}
			}
		}
	}
	for _, message := range []string{long, long + long} {
		if s, e := sign.Sign(zeroSeed, 1, 1, message); s != "" || e != api.ErrLimit {
			t.Errorf("P3.3: Sign of %d bytes: %d bytes, %d", len(message), len(s), e)
		}
	}
}

func TestVerify(t *testing.T) {
	p := public(t, officeSeed, 1)
	s := signature(t, officeSeed, 1, 1, "m")
	if index, e := sign.Verify(p, 1, "m", s); index != 1 || e != api.OK {
		t.Errorf("P3.4: Verify returns %d, %d", index, e)
	}
	refused(t, "another message", p, 1, "n", s, api.ErrSign)
	// What is verified here does not come from the package.
	tree := levels(zeroSeed, 3)
	for index := range 8 {
		if i, e := sign.Verify(api.Digest([]byte(tree[3][0])), 3, "word", signed(zeroSeed, tree, index, "word")); i != index || e != api.OK {
			t.Errorf("P3.4: a signature by the key %d: %d, %d", index, i, e)
		}
	}
}

// TestVerifyOrder checks each error together with all that come after it.
func TestVerifyOrder(t *testing.T) {
	p := public(t, zeroSeed, 2)
	long := strings.Repeat("x", maxMessage+1)
	for _, height := range []int{-1, 7, 62, 63, 64, math.MaxInt, math.MinInt} {
		for _, message := range []string{"", long} {
			for _, s := range []string{"", "v", "\x7f", signature(t, zeroSeed, 2, 1, "")} {
				refused(t, "a wrong height", p, height, message, s, api.ErrArg)
			}
		}
	}
	for _, s := range []string{"", "v", "\x7f", "\x81\x01", signature(t, zeroSeed, 2, 1, "")} {
		refused(t, "a long message", p, 2, long, s, api.ErrLimit)
		refused(t, "a longer message", p, 2, long+long, s, api.ErrLimit)
	}
	rest := signature(t, zeroSeed, 2, 0, "")[1:]
	for _, x := range []struct {
		name, index string
		want        api.Errno
	}{
		{"no index", "", api.ErrMore},
		{"an incomplete index", "\x82\x01", api.ErrMore},
		{"an index of 8 bytes of which 7 are there", "\x88\x01\x00\x00\x00\x00\x00\x00", api.ErrMore},
		{"an index of 9 bytes", "\x89" + rest, api.ErrForm},
		{"a negative index of 9 bytes", "\x76" + rest, api.ErrForm},
		{"an index with a leading zero", "\x81\x00" + rest, api.ErrForm},
		{"an index of 2^63", "\x88\x80\x00\x00\x00\x00\x00\x00\x00" + rest, api.ErrForm},
		{"the index alone", "\x80", api.ErrForm},
		{"the index -1", "\x7f" + rest, api.ErrForm},
		{"the least index", string(wire.Int(math.MinInt)) + rest, api.ErrForm},
		{"the greatest index", string(wire.Int(math.MaxInt)) + rest, api.ErrForm},
		{"an index that is 0 modulo 2^32", string(wire.Int(1<<32)) + rest, api.ErrForm},
		{"the index 4", string(wire.Int(4)) + rest, api.ErrForm},
		{"the index 5", string(wire.Int(5)) + rest, api.ErrForm},
		{"the index 1", string(wire.Int(1)) + rest, api.ErrSign},
		{"the index 2", string(wire.Int(2)) + rest, api.ErrSign},
		{"the index 3", string(wire.Int(3)) + rest, api.ErrSign},
		{"another length", "\x80" + rest + "\x00", api.ErrForm},
		{"another length, less", "\x80" + rest[1:], api.ErrForm},
		{"zeros", "\x80" + strings.Repeat("\x00", 70*16), api.ErrSign},
	} {
		refused(t, x.name, p, 2, "", x.index, x.want)
	}
}

// TestVerifyIndex checks which indices a tree has.
func TestVerifyIndex(t *testing.T) {
	for height := range 7 {
		rest := strings.Repeat("r", (68+height)*16)
		for index := -3; index <= 130; index++ {
			want := api.ErrForm
			if 0 <= index && index < 1<<height {
				want = api.ErrSign
			}
			refused(t, fmt.Sprint("the index ", index, " and the height ", height), api.Digest{}, height, "", string(wire.Int(index))+rest, want)
		}
	}
}

// TestLengths checks that a signature of any other length is refused, also beginnings of it.
func TestLengths(t *testing.T) {
	for height := range 4 {
		p, s := public(t, zeroSeed, height), signature(t, zeroSeed, height, 1<<height-1, "m")
		if index := len(wire.Int(1<<height - 1)); len(s) != index+(68+height)*16 {
			t.Errorf("P3.3: a signature of the height %d has %d bytes", height, len(s))
		}
		for n := range len(s) {
			want := api.ErrForm
			if n == 0 || n == 1 && height > 0 {
				want = api.ErrMore
			}
			refused(t, fmt.Sprint("the first ", n, " bytes"), p, height, "m", s[:n], want)
		}
		for n := 1; n <= 33; n++ {
			refused(t, fmt.Sprint(n, " bytes more"), p, height, "m", s+s[:n], api.ErrForm)
			refused(t, fmt.Sprint(n, " zero bytes more"), p, height, "m", s+strings.Repeat("\x00", n), api.ErrForm)
		}
		for other := range 7 {
			if other > height {
				refused(t, fmt.Sprint("the height ", other), p, other, "m", s, api.ErrForm)
			}
		}
		if height > 0 {
			refused(t, "a lower tree", p, height-1, "m", s, api.ErrForm)
		}
	}
}

// TestForgeries checks that nothing of a signature can be changed.
func TestForgeries(t *testing.T) {
	p, s := public(t, officeSeed, 3), signature(t, officeSeed, 3, 5, "word")
	first := len(wire.Int(5))
	for at := first; at < len(s); at++ {
		b := []byte(s)
		b[at] ^= 1 << (at % 8)
		refused(t, fmt.Sprint("the byte ", at, " is changed"), p, 3, "word", string(b), api.ErrSign)
	}
	for block := first; block+32 <= len(s); block += 16 {
		swapped := s[:block] + s[block+16:block+32] + s[block:block+16] + s[block+32:]
		refused(t, fmt.Sprint("the parts from ", block, " are swapped"), p, 3, "word", swapped, api.ErrSign)
	}
	for _, message := range []string{"", "wor", "words", "Word", "word\x00", " word"} {
		refused(t, "another message", p, 3, message, s, api.ErrSign)
	}
	for i := range p {
		other := p
		other[i] ^= 128
		refused(t, "another public key", other, 3, "word", s, api.ErrSign)
	}
	refused(t, "the key of another seed", public(t, zeroSeed, 3), 3, "word", s, api.ErrSign)
	for index := range 8 {
		if index != 5 {
			refused(t, fmt.Sprint("the index ", index), p, 3, "word", string(wire.Int(index))+s[first:], api.ErrSign)
		}
	}
}

// TestAdvanced advances single values of a signature, which everybody can do.
func TestAdvanced(t *testing.T) {
	p, s := public(t, countSeed, 1), signature(t, countSeed, 1, 1, "m")
	first := len(wire.Int(1))
	for c, x := range sign.Digits(sign.Digest(p, 1, "m")) {
		for to := x + 1; to <= 3; to++ {
			at := first + c*16
			forged := s[:at] + chainValue(countSeed, 1, c, to) + s[at+16:]
			refused(t, fmt.Sprint("the chain ", c, " is advanced to ", to), p, 1, "m", forged, api.ErrSign)
		}
	}
}

// TestRoundTrip verifies signatures of all heights by their public keys.
func TestRoundTrip(t *testing.T) {
	for height := range 7 {
		p := public(t, officeSeed, height)
		for index := 0; index < 1<<height; index += max(1, 1<<height/13) {
			message := strings.Repeat("m", index*height)
			s := signature(t, officeSeed, height, index, message)
			if i, e := sign.Verify(p, height, message, s); i != index || e != api.OK {
				t.Errorf("P3.5: the signature by the key %d of a height %d: %d, %d", index, height, i, e)
			}
			refused(t, "another message", p, height, message+"!", s, api.ErrSign)
		}
	}
	message := strings.Repeat("\xff", maxMessage)
	s := signature(t, zeroSeed, 0, 0, message)
	if i, e := sign.Verify(public(t, zeroSeed, 0), 0, message, s); i != 0 || e != api.OK {
		t.Errorf("P3.5: a message of the greatest length: %d, %d", i, e)
	}
}

// crossed reports whether a digit of a is less than that of b and another one is greater.
func crossed(a, b api.Digest) bool {
	less, greater := false, false
	l := sign.Digits(b)
	for i, x := range sign.Digits(a) {
		less = less || x < l[i]
		greater = greater || x > l[i]
	}
	return less && greater
}

func TestCrossed(t *testing.T) {
	r := rand.New(rand.NewSource(3))
	for range 1000 {
		var a api.Digest
		r.Read(a[:])
		for bit := range 128 {
			b := a
			b[bit/8] ^= 1 << (bit % 8)
			if !crossed(a, b) || !crossed(b, a) {
				t.Fatalf("P3.6: the digits of %x and %x", a, b)
			}
		}
		// Here no digit of the digest itself is less than before.
		b := a
		for i := range b {
			b[i] |= byte(r.Intn(256))
		}
		if a != b && (!crossed(a, b) || !crossed(b, a)) {
			t.Fatalf("P3.6: the digits of %x and %x", a, b)
		}
	}
}

// TestState checks that results are new memory and do not depend on earlier calls.
func TestState(t *testing.T) {
	d := api.Digest{1, 2, 3}
	first := sign.Digits(d)
	want := slices.Clone(first)
	clear(first)
	_ = append(first, 1)
	if l := sign.Digits(d); !slices.Equal(l, want) {
		t.Error("R4: the results of Digits share memory:", l)
	}
	s := signature(t, zeroSeed, 1, 0, "a")
	signature(t, zeroSeed, 1, 0, "b")
	public(t, countSeed, 2)
	if again := signature(t, zeroSeed, 1, 0, "a"); again != s {
		t.Error("R5: Sign depends on earlier calls")
	}
}
