package sign

import (
	"math/rand"
	"slices"
	"strings"
	"testing"

	"passim/api"
	"passim/hash"
	"passim/wire"
)

var seed = strings.Repeat("s", 32)

func TestDigits(t *testing.T) {
	zeros, ones := Digits(api.Digest{}), [16]byte{}
	for i := range ones {
		ones[i] = 255
	}
	if len(zeros) != 68 || slices.Max(zeros[:64]) != 0 || !slices.Equal(zeros[64:], []int{3, 0, 0, 0}) {
		t.Error("P3.1:", zeros)
	}
	if l := Digits(ones); len(l) != 68 || slices.Min(l[:64]) != 3 || !slices.Equal(l[64:], []int{0, 0, 0, 0}) {
		t.Error("P3.1:", l)
	}
	if l := Digits(api.Digest{0b00011011, 0b11100100}); !slices.Equal(l[:8], []int{0, 1, 2, 3, 3, 2, 1, 0}) {
		t.Error("P3.1:", l)
	}
	r := rand.New(rand.NewSource(1))
	for range 500 {
		var a, b api.Digest
		r.Read(a[:])
		b = a
		b[r.Intn(16)] ^= byte(1 << r.Intn(8))
		less, greater := false, false
		y := Digits(b)
		for i, x := range Digits(a) {
			less, greater = less || x < y[i], greater || x > y[i]
		}
		if !less || !greater {
			t.Error("P3.6:", a, b)
		}
	}
}

// slowTree makes the nodes of a tree level by level, as the chapter defines them.
func slowTree(seed string, height int) [][]api.Digest {
	var row []api.Digest
	for i := range 1 << height {
		all := ""
		for c := range 68 {
			v := hash.Mac(seed, "chain"+string(wire.Ints([]int{i, c})))[:16]
			for h := range 3 {
				d := hash.Of(api.TagChain, string(wire.Ints([]int{i, c, h})), v)
				v = string(d[:])
			}
			all += v
		}
		key := hash.Of(api.TagKey, all)
		row = append(row, hash.Of(api.TagLeaf, string(key[:])))
	}
	all := [][]api.Digest{row}
	for len(row) > 1 {
		var up []api.Digest
		for i := 0; i < len(row); i += 2 {
			up = append(up, hash.Of(api.TagNode, string(row[i][:]), string(row[i+1][:])))
		}
		row = up
		all = append(all, row)
	}
	return all
}

func TestPublic(t *testing.T) {
	for h := range 4 {
		if d, e := Public(seed, h); d != slowTree(seed, h)[h][0] || e != api.OK {
			t.Error("P3.1:", h, d, e)
		}
	}
	for _, x := range []struct {
		seed   string
		height int
	}{{seed[1:], 0}, {seed + "s", 0}, {"", 3}, {seed, -1}, {seed, 7}, {seed, 1 << 62}} {
		if d, e := Public(x.seed, x.height); d != (api.Digest{}) || e != api.ErrArg {
			t.Error("P3.1:", len(x.seed), x.height, d, e)
		}
	}
}

func TestDigest(t *testing.T) {
	p := api.Digest{1}
	if Digest(p, -7, "m") != hash.Of(api.TagMessage, string(p[:]), string(wire.Int(-7)), "m") {
		t.Error("P3.2")
	}
}

func TestSignAndVerify(t *testing.T) {
	for height := range 4 {
		public, _ := Public(seed, height)
		for index := range 1 << height {
			s, e := Sign(seed, height, index, "m")
			if e != api.OK {
				t.Fatal("P3.3:", e)
			}
			if i, e := Verify(public, height, "m", s); i != index || e != api.OK {
				t.Error("P3.5:", height, index, i, e)
			}
			if i, e := Verify(public, height, "n", s); i != 0 || e != api.ErrSign {
				t.Error("P3.4: another message:", i, e)
			}
			for _, other := range []string{s + "x", s[:len(s)-1]} {
				if i, e := Verify(public, height, "m", other); i != 0 || e != api.ErrForm {
					t.Error("P3.5: another length:", i, e)
				}
			}
			forged := []byte(s)
			forged[len(forged)-3] ^= 1
			if _, e := Verify(public, height, "m", string(forged)); e != api.ErrSign {
				t.Error("P3.4: a forged signature:", e)
			}
		}
	}
}

func TestSignature(t *testing.T) {
	public, _ := Public(seed, 1)
	s, _ := Sign(seed, 1, 1, "m")
	b := []byte(s)
	if !slices.Equal(b[:2], []byte{129, 1}) || len(b) != 2+69*16 {
		t.Fatal("P3.3:", len(b))
	}
	for c, x := range Digits(Digest(public, 1, "m")) {
		v := hash.Mac(seed, "chain"+string(wire.Ints([]int{1, c})))[:16]
		for h := range x {
			d := hash.Of(api.TagChain, string(wire.Ints([]int{1, c, h})), v)
			v = string(d[:])
		}
		if s[2+16*c:18+16*c] != v {
			t.Error("P3.3: the chain", c)
		}
	}
}

func TestNodesOfSignature(t *testing.T) {
	for _, seed := range []string{seed, strings.Repeat("\x05", 32)} {
		for height := range 4 {
			tree := slowTree(seed, height)
			for index := range 1 << height {
				s, _ := Sign(seed, height, index, "m")
				nodes := ""
				for level := range height {
					d := tree[level][index>>level^1]
					nodes += string(d[:])
				}
				if len(s) < 68*16+len(nodes) || s[len(s)-len(nodes):] != nodes {
					t.Error("P3.3: the nodes next to the way:", height, index)
				}
				if i, e := Verify(tree[height][0], height, "m", s); i != index || e != api.OK {
					t.Error("P3.5:", height, index, i, e)
				}
			}
		}
	}
}

func TestErrors(t *testing.T) {
	long := strings.Repeat("m", 1<<20)
	for i, x := range []struct {
		seed          string
		height, index int
		message       string
		e             api.Errno
	}{{seed, 1, 2, "m", api.ErrSpent}, {seed, 0, -1, "m", api.ErrSpent}, {seed[1:], 1, 5, "m", api.ErrArg}, {seed, 7, 0, "m", api.ErrArg}, {seed, 0, 0, long, api.OK}, {seed, 0, 0, long + "m", api.ErrLimit}, {seed, 0, 1, long + "m", api.ErrSpent}} {
		if s, e := Sign(x.seed, x.height, x.index, x.message); e != x.e || (e == api.OK) != (s != "") {
			t.Error("P3.3:", i, e)
		}
	}
	public, _ := Public(seed, 0)
	for i, x := range []struct {
		height             int
		message, signature string
		e                  api.Errno
	}{{7, "", "", api.ErrArg}, {-1, long + "m", "", api.ErrArg}, {0, long + "m", "", api.ErrLimit}, {0, "m", "", api.ErrMore}, {0, "m", "\x00", api.ErrForm}, {0, "m", "\x80", api.ErrForm},
		{0, "m", "\x81\x01" + strings.Repeat("x", 68*16), api.ErrForm}, {0, "m", "\x7f" + strings.Repeat("x", 68*16), api.ErrForm}, {0, "m", "\x80" + strings.Repeat("x", 68*16), api.ErrSign}} {
		if n, e := Verify(public, x.height, x.message, x.signature); n != 0 || e != x.e {
			t.Error("P3.4:", i, n, e)
		}
	}
}
