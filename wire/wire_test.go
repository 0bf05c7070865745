package wire

import (
	"bytes"
	"math"
	"slices"
	"testing"

	"passim/api"
)

// numbers are integers around all borders of lengths, in increasing order.
func numbers() []int {
	l := []int{math.MinInt, math.MinInt + 1, math.MaxInt - 1, math.MaxInt, 0}
	for k := range 63 {
		for d := -2; d <= 2; d++ {
			l = append(l, 1<<k+d, -(1<<k)+d)
		}
	}
	slices.Sort(l)
	return slices.Compact(l)
}

func TestIntExamples(t *testing.T) {
	for _, x := range []struct {
		n int
		b []byte
	}{{0, []byte{128}}, {1, []byte{129, 1}}, {255, []byte{129, 255}}, {256, []byte{130, 1, 0}}, {-1, []byte{127}}, {-2, []byte{126, 254}}, {-256, []byte{126, 0}}, {-257, []byte{125, 254, 255}}} {
		if b := Int(x.n); !bytes.Equal(b, x.b) {
			t.Error("P1.1:", x.n, b)
		}
	}
}

func TestIntOrderAndBack(t *testing.T) {
	var last []byte
	for i, n := range numbers() {
		b := Int(n)
		if len(b) > 9 || i > 0 && bytes.Compare(last, b) >= 0 {
			t.Error("P1.7:", n, last, b)
		}
		last = b
		if m, used, e := GetInt(append(slices.Clone(b), 1, 200)); m != n || used != len(b) || e != api.OK {
			t.Error("P1.6:", n, m, used, e)
		}
		for k := range b {
			if m, used, e := GetInt(b[:k]); m != 0 || used != 0 || e != api.ErrMore {
				t.Error("P1.6: a prefix of", n, m, used, e)
			}
		}
	}
}

func TestGetIntErrors(t *testing.T) {
	for _, x := range []struct {
		b []byte
		e api.Errno
	}{{nil, api.ErrMore}, {[]byte{118}, api.ErrForm}, {[]byte{137}, api.ErrForm}, {[]byte{255}, api.ErrForm}, {[]byte{0}, api.ErrForm}, {[]byte{130, 1}, api.ErrMore}, {[]byte{119, 1}, api.ErrMore},
		{[]byte{129, 0}, api.ErrForm}, {[]byte{126, 255}, api.ErrForm}, {[]byte{130, 0, 9}, api.ErrForm}, {[]byte{136, 128, 0, 0, 0, 0, 0, 0, 0}, api.ErrForm}, {[]byte{119, 127, 0, 0, 0, 0, 0, 0, 0}, api.ErrForm}} {
		if n, used, e := GetInt(x.b); n != 0 || used != 0 || e != x.e {
			t.Error("P1.2:", x.b, n, used, e)
		}
	}
}

func TestEveryDecodedIsEncoded(t *testing.T) {
	for a := range 256 {
		for b := range 256 {
			for _, tail := range [][]byte{nil, {0}, {0, 7}, {255, 255}} {
				s := append([]byte{byte(a), byte(b)}, tail...)
				if n, used, e := GetInt(s); e == api.OK && !bytes.Equal(Int(n), s[:used]) {
					t.Error("P1.6:", s, n)
				}
				if l, used, e := GetInts(s); e == api.OK && !bytes.Equal(Ints(l), s[:used]) {
					t.Error("P1.6:", s, l)
				}
				if l, used, e := GetStrings(s); e == api.OK && !bytes.Equal(Strings(l), s[:used]) {
					t.Error("P1.6:", s, l)
				}
			}
		}
	}
}

func TestStringsAndLists(t *testing.T) {
	if b := Bytes("ab"); !bytes.Equal(b, []byte{129, 2, 97, 98}) {
		t.Error("P1.3:", b)
	}
	if b := Ints([]int{1, -1}); !bytes.Equal(b, []byte{129, 2, 129, 1, 127}) {
		t.Error("P1.4:", b)
	}
	if b := Strings([]string{"", "a"}); !bytes.Equal(b, []byte{129, 2, 128, 129, 1, 97}) {
		t.Error("P1.5:", b)
	}
	s, long := "", string(make([]byte, 300))
	for _, v := range []string{s, "a", long} {
		b := Bytes(v)
		if got, used, e := GetBytes(append(slices.Clone(b), 3)); got != v || used != len(b) || e != api.OK {
			t.Error("P1.3:", len(v), used, e)
		}
	}
	ints, texts, digests := numbers(), []string{"", "x", long}, []api.Digest{{}, {1, 15: 2}, {255}}
	b := Ints(ints)
	if l, used, e := GetInts(append(slices.Clone(b), 3)); !slices.Equal(l, ints) || used != len(b) || e != api.OK {
		t.Error("P1.4:", used, e)
	}
	b = Strings(texts)
	if l, used, e := GetStrings(append(slices.Clone(b), 3)); !slices.Equal(l, texts) || used != len(b) || e != api.OK {
		t.Error("P1.5:", used, e)
	}
	b = Digests(digests)
	if l, used, e := GetDigests(append(slices.Clone(b), 3)); !slices.Equal(l, digests) || used != len(b) || len(b) != 50 || e != api.OK {
		t.Error("P1.8:", used, e)
	}
}

func TestPrefixes(t *testing.T) {
	for name, x := range map[string]struct {
		b   []byte
		get func([]byte) (bool, int, api.Errno)
	}{
		"P1.3": {Bytes("hello"), func(b []byte) (bool, int, api.Errno) { s, n, e := GetBytes(b); return s == "", n, e }},
		"P1.4": {Ints([]int{5, -70000, 1 << 40}), func(b []byte) (bool, int, api.Errno) { l, n, e := GetInts(b); return l == nil, n, e }},
		"P1.5": {Strings([]string{"", "ab", "c"}), func(b []byte) (bool, int, api.Errno) { l, n, e := GetStrings(b); return l == nil, n, e }},
		"P1.8": {Digests([]api.Digest{{1}, {2}}), func(b []byte) (bool, int, api.Errno) { l, n, e := GetDigests(b); return l == nil, n, e }},
	} {
		for k := range x.b {
			if empty, used, e := x.get(x.b[:k]); !empty || used != 0 || e != api.ErrMore {
				t.Error(name, k, empty, used, e)
			}
		}
		for _, y := range []struct {
			b []byte
			e api.Errno
		}{{[]byte{127, 128, 128}, api.ErrForm}, {[]byte{129, 0}, api.ErrForm}, {[]byte{137}, api.ErrForm}, {[]byte{136, 127, 255, 255, 255, 255, 255, 255, 255, 1}, api.ErrMore}} {
			if empty, used, e := x.get(y.b); !empty || used != 0 || e != y.e {
				t.Error(name, y.b, empty, used, e)
			}
		}
	}
	if _, _, e := GetInts([]byte{129, 2, 128, 118}); e != api.ErrForm {
		t.Error("P1.4: an element:", e)
	}
	if _, _, e := GetStrings([]byte{129, 2, 128, 127}); e != api.ErrForm {
		t.Error("P1.5: an element:", e)
	}
	if _, _, e := GetInts([]byte{129, 3, 118, 118}); e != api.ErrMore {
		t.Error("P1.4: too few bytes come before a wrong element:", e)
	}
}
