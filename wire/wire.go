// Package wire encodes values as bytes (layer 1, shared/doc/01-wire.md).
package wire

import "passim/api"

const (
	zero    = 128 // the first byte of the encoding of 0
	longest = 8   // the greatest number of bytes behind the first one
)

// size returns the least number of bytes in which m can be written.
func size(m uint64) int {
	k := 0
count:
	for {
		switch m {
		case 0:
			break count
		default:
			m >>= 8
			k++
		}
	}
	return k
}

// Int returns the encoding of an integer.
func Int(n int) []byte {
	m, flip := uint64(n), byte(0)
	if n < 0 {
		m, flip = ^m, 255
	}
	k := size(m)
	b := make([]byte, 0, k+1)
	if n < 0 {
		b = append(b, byte(zero-1-k))
	} else {
		b = append(b, byte(zero+k))
	}
	for i := k - 1; i >= 0; i-- {
		b = append(b, byte(m>>(8*i))^flip)
	}
	return b
}

// GetInt decodes an integer at the beginning of a byte sequence.
func GetInt(b []byte) (int, int, api.Errno) {
	if len(b) == 0 {
		return 0, 0, api.ErrMore
	}
	k, flip := int(b[0])-zero, byte(0)
	if k < 0 {
		k, flip = -1-k, 255
	}
	if k > longest {
		return 0, 0, api.ErrForm
	}
	if len(b) < k+1 {
		return 0, 0, api.ErrMore
	}
	m := uint64(0)
	for _, c := range b[1 : k+1] {
		m = m<<8 | uint64(c^flip)
	}
	if size(m) != k || m > 1<<63-1 {
		return 0, 0, api.ErrForm
	}
	if flip != 0 {
		m = ^m
	}
	return int(m), k + 1, api.OK
}

// Bytes returns the encoding of a byte string.
func Bytes(s string) []byte { return append(Int(len(s)), s...) }

// length decodes the number of elements that follow, each of which takes at least width bytes.
func length(b []byte, width int) (int, int, api.Errno) {
	n, used, e := GetInt(b)
	switch {
	case e != api.OK:
		return 0, 0, e
	case n < 0:
		return 0, 0, api.ErrForm
	case n > (len(b)-used)/width:
		return 0, 0, api.ErrMore
	}
	return n, used, api.OK
}

// GetBytes decodes a byte string at the beginning of a byte sequence.
func GetBytes(b []byte) (string, int, api.Errno) {
	n, used, e := length(b, 1)
	if e != api.OK {
		return "", 0, e
	}
	return string(b[used : used+n]), used + n, api.OK
}

// list decodes a list whose elements are decoded, one after the other, by element, which returns the bytes that it used.
func list(b []byte, width int, element func(rest []byte) (int, api.Errno)) (int, api.Errno) {
	n, used, e := length(b, width)
	if e != api.OK {
		return 0, e
	}
	for range n {
		more, e := element(b[used:])
		if e != api.OK {
			return 0, e
		}
		used += more
	}
	return used, api.OK
}

// Ints returns the encoding of a list of integers.
func Ints(l []int) []byte {
	b := Int(len(l))
	for _, n := range l {
		b = append(b, Int(n)...)
	}
	return b
}

// GetInts decodes a list of integers at the beginning of a byte sequence.
func GetInts(b []byte) ([]int, int, api.Errno) {
	var l []int
	used, e := list(b, 1, func(rest []byte) (int, api.Errno) {
		n, more, e := GetInt(rest)
		l = append(l, n)
		return more, e
	})
	if e != api.OK {
		return nil, 0, e
	}
	return l, used, api.OK
}

// Strings returns the encoding of a list of byte strings.
func Strings(l []string) []byte {
	b := Int(len(l))
	for _, s := range l {
		b = append(b, Bytes(s)...)
	}
	return b
}

// GetStrings decodes a list of byte strings at the beginning of a byte sequence.
func GetStrings(b []byte) ([]string, int, api.Errno) {
	var l []string
	used, e := list(b, 1, func(rest []byte) (int, api.Errno) {
		s, more, e := GetBytes(rest)
		l = append(l, s)
		return more, e
	})
	if e != api.OK {
		return nil, 0, e
	}
	return l, used, api.OK
}

// Digests returns the encoding of a list of digests.
func Digests(l []api.Digest) []byte {
	b := Int(len(l))
	for _, d := range l {
		b = append(b, d[:]...)
	}
	return b
}

// GetDigests decodes a list of digests at the beginning of a byte sequence.
func GetDigests(b []byte) ([]api.Digest, int, api.Errno) {
	var l []api.Digest
	used, e := list(b, api.DigestSize, func(rest []byte) (int, api.Errno) {
		l = append(l, api.Digest(rest[:api.DigestSize]))
		return api.DigestSize, api.OK
	})
	if e != api.OK {
		return nil, 0, e
	}
	return l, used, api.OK
}
