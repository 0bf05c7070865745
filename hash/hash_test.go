package hash

import (
	"crypto/hmac"
	"crypto/sha256"
	"encoding/hex"
	"math/rand"
	"slices"
	"strings"
	"testing"

	"passim/wire"
)

func TestSum(t *testing.T) {
	for text, want := range map[string][2]string{"": {"e3b0c442", "7852b855"}, "abc": {"ba7816bf", "f20015ad"}} {
		sum := Sum([]byte(text))
		if s := hex.EncodeToString(sum[:]); !strings.HasPrefix(s, want[0]) || !strings.HasSuffix(s, want[1]) {
			t.Error("P2.1:", text, s)
		}
	}
	b := make([]byte, 400)
	for i := range b {
		b[i] = byte(i * 7)
		if Sum(b[:i]) != sha256.Sum256(b[:i]) {
			t.Error("P2.1: a length of", i)
		}
	}
}

func TestStream(t *testing.T) {
	if Begin().Add("a").Add("bc").Sum() != Sum([]byte("abc")) {
		t.Error("P2.2: the example")
	}
	r := rand.New(rand.NewSource(1))
	for range 200 {
		s, text := Begin(), ""
		for range r.Intn(6) {
			piece := strings.Repeat("x", r.Intn(100)) + string(rune('a'+r.Intn(26)))
			old := s.Sum()
			longer := s.Add(piece)
			if s.Sum() != old || longer.Sum() != Sum([]byte(text+piece)) {
				t.Fatal("P2.2, P2.6:", len(text), len(piece))
			}
			if other := s.Add("?"); other.Sum() == longer.Sum() && piece != "?" {
				t.Fatal("P2.2: several streams continue the same one")
			}
			s, text = longer, text+piece
		}
	}
}

func TestMac(t *testing.T) {
	for _, x := range [][4]string{{"Jefe", "what do ya want for nothing?", "5bdcc146", "64ec3843"}, {"", "", "b613679a", "4292c5ad"}} {
		if s := hex.EncodeToString([]byte(Mac(x[0], x[1]))); !strings.HasPrefix(s, x[2]) || !strings.HasSuffix(s, x[3]) {
			t.Error("P2.3:", s)
		}
	}
	for _, n := range []int{0, 1, 63, 64, 65, 130} {
		key, text := strings.Repeat("k", n), strings.Repeat("t", 2*n)
		m := hmac.New(sha256.New, []byte(key))
		m.Write([]byte(text))
		if Mac(key, text) != string(m.Sum(nil)) {
			t.Error("P2.3: a key of", n)
		}
	}
}

func TestOf(t *testing.T) {
	for _, x := range []struct {
		tag         int
		parts       []string
		first, last string
	}{{1, nil, "4bf5122f", "8cd2b7e3"}, {8, []string{"a", ""}, "36cd5085", "a7d8fb62"}} {
		d := Of(x.tag, x.parts...)
		if s := hex.EncodeToString(d[:]); !strings.HasPrefix(s, x.first) || !strings.HasSuffix(s, x.last) {
			t.Error("P2.4:", s)
		}
	}
	for _, tag := range []int{-1, -257, 255, 511} {
		sum := sha256.Sum256(slices.Concat([]byte{255}, wire.Bytes("ab")))
		if d := Of(tag, "ab"); string(d[:]) != string(sum[:16]) {
			t.Error("P2.4: the tag", tag)
		}
	}
	if Of(1, "a", "b") == Of(1, "ab") || Of(1, "a") == Of(2, "a") || Of(1) == Of(1, "") || Of(1, "", "a") == Of(1, "a", "") {
		t.Error("P2.6: different parts have the same digest")
	}
}

func TestEqual(t *testing.T) {
	if !Equal("ab", "ab") || Equal("ab", "ac") || Equal("", "a") || Equal("a", "ab") || !Equal("", "") || Equal("\x80", "\x00") {
		t.Error("P2.5")
	}
}
