// Package wire encodes values as bytes (layer 1, shared/doc/01-wire.md).
package wire

import "wordbook/api"

// The first byte of an encoding is zeroByte + k for an integer n >= 0, and its complement for n < 0.
const (
	zeroByte = 128
	maxBytes = 8
)

// Int returns the encoding of an integer.
func Int(n int) []byte {
	return appendInt(nil, n)
}

// appendInt appends the encoding of n to b. For n < 0 this is the encoding of -1 - n with every byte complemented, so that lesser integers have lesser bytes.
func appendInt(b []byte, n int) []byte {
	m, mask := uint64(n), byte(0)
	if n < 0 {
		m, mask = ^m, 255
	}
	first := len(b)
	b = append(b, 0)
digits:
	for shift := 8 * (maxBytes - 1); ; shift -= 8 {
		switch {
		case shift < 0:
			break digits
		case m>>shift == 0:
			continue digits
		default:
			b = append(b, byte(m>>shift)^mask)
		}
	}
	k := len(b) - first - 1
	b[first] = byte(zeroByte+k) ^ mask
	return b
}

// GetInt decodes an integer at the beginning of a byte sequence.
func GetInt(b []byte) (int, int, api.Errno) {
	if len(b) == 0 {
		return 0, 0, api.ErrMore
	}
	first, mask := b[0], byte(0)
	if first < zeroByte {
		first, mask = ^first, 255
	}
	k := int(first) - zeroByte
	if k > maxBytes {
		return 0, 0, api.ErrForm
	}
	if len(b)-1 < k {
		return 0, 0, api.ErrMore
	}
	if k > 0 && b[1] == mask {
		return 0, 0, api.ErrForm
	}
	m := uint64(0)
	for _, c := range b[1 : 1+k] {
		m = m<<8 | uint64(c^mask)
	}
	if m>>63 != 0 {
		return 0, 0, api.ErrForm
	}
	if mask != 0 {
		m = ^m
	}
	return int(m), 1 + k, api.OK
}

// getLength decodes how many parts follow, and checks that there are at least width bytes for each of them. This keeps a forged length from making a decoder allocate memory.
func getLength(b []byte, width int) (int, int, api.Errno) {
	n, used, e := GetInt(b)
	switch {
	case e != api.OK:
		return 0, 0, e
	case n < 0:
		return 0, 0, api.ErrForm
	case n > (len(b)-used)/width:
		return 0, 0, api.ErrMore
	}
	return n, used, api.OK
}

// getList decodes a length and that many elements of at least width bytes each. The function element decodes one at the beginning of a byte sequence, keeps it, and returns the number of its bytes. The result is the number of bytes of the whole list.
func getList(b []byte, width int, element func([]byte) (int, api.Errno)) (int, api.Errno) {
	n, used, e := getLength(b, width)
	if e != api.OK {
		return 0, e
	}
	for range n {
		size, e := element(b[used:])
		if e != api.OK {
			return 0, e
		}
		used += size
	}
	return used, api.OK
}

// Bytes returns the encoding of a byte string.
func Bytes(s string) []byte {
	return append(Int(len(s)), s...)
}

// GetBytes decodes a byte string at the beginning of a byte sequence.
func GetBytes(b []byte) (string, int, api.Errno) {
	n, used, e := getLength(b, 1)
	if e != api.OK {
		return "", 0, e
	}
	return string(b[used : used+n]), used + n, api.OK
}

// Ints returns the encoding of a list of integers.
func Ints(l []int) []byte {
	b := Int(len(l))
	for _, n := range l {
		b = appendInt(b, n)
	}
	return b
}

// GetInts decodes a list of integers at the beginning of a byte sequence.
func GetInts(b []byte) ([]int, int, api.Errno) {
	var l []int
	used, e := getList(b, 1, func(rest []byte) (int, api.Errno) {
		n, size, e := GetInt(rest)
		l = append(l, n)
		return size, e
	})
	if e != api.OK {
		return nil, 0, e
	}
	return l, used, api.OK
}

// Strings returns the encoding of a list of byte strings.
func Strings(l []string) []byte {
	b := Int(len(l))
	for _, s := range l {
		b = append(appendInt(b, len(s)), s...)
	}
	return b
}

// GetStrings decodes a list of byte strings at the beginning of a byte sequence.
func GetStrings(b []byte) ([]string, int, api.Errno) {
	var l []string
	used, e := getList(b, 1, func(rest []byte) (int, api.Errno) {
		s, size, e := GetBytes(rest)
		l = append(l, s)
		return size, e
	})
	if e != api.OK {
		return nil, 0, e
	}
	return l, used, api.OK
}

// Digests returns the encoding of a list of digests.
func Digests(l []api.Digest) []byte {
	b := Int(len(l))
	for _, d := range l {
		b = append(b, d[:]...)
	}
	return b
}

// GetDigests decodes a list of digests at the beginning of a byte sequence.
func GetDigests(b []byte) ([]api.Digest, int, api.Errno) {
	var l []api.Digest
	used, e := getList(b, api.DigestSize, func(rest []byte) (int, api.Errno) {
		l = append(l, api.Digest(rest[:api.DigestSize]))
		return api.DigestSize, api.OK
	})
	if e != api.OK {
		return nil, 0, e
	}
	return l, used, api.OK
}
