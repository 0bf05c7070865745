package merkle

import (
	"math"
	"reflect"
	"slices"
	"strings"
	"testing"

	"passim/api"
	"passim/hash"
	"passim/wire"
)

var example = []Leaf{{"a", "1"}, {"c", "2"}, {"d", "3"}, {"f", "4"}, {"g", "5"}}

func digest(l ...Leaf) api.Digest {
	if len(l) == 1 {
		return hash.Of(api.TagLeaf, l[0].Key, l[0].Value)
	}
	m := 1
	for 2*m < len(l) {
		m *= 2
	}
	a, b := digest(l[:m]...), digest(l[m:]...)
	return hash.Of(api.TagNode, string(a[:]), string(b[:]))
}

func leaves(n int) []Leaf {
	var l []Leaf
	for i := range n {
		l = append(l, Leaf{string([]byte{byte(65 + i/50), byte(40 + i%50*2)}), strings.Repeat("v", i%3)})
	}
	return l
}

func TestValid(t *testing.T) {
	many := make([]Leaf, api.MaxLeaves+1)
	for i, x := range []struct {
		l []Leaf
		e api.Errno
	}{{nil, api.OK}, {example, api.OK}, {[]Leaf{{"", ""}}, api.OK}, {many, api.ErrLimit}, {[]Leaf{{"a", ""}, {"a", "x"}}, api.ErrArg}, {[]Leaf{{"b", ""}, {"a", ""}}, api.ErrArg},
		{[]Leaf{{"b", ""}, {"a", strings.Repeat("x", api.MaxBytes+1)}}, api.ErrLimit}, {[]Leaf{{strings.Repeat("x", api.MaxBytes+1), ""}}, api.ErrLimit}, {[]Leaf{{strings.Repeat("x", api.MaxBytes), strings.Repeat("x", api.MaxBytes)}}, api.OK}} {
		if e := Valid(x.l); e != x.e {
			t.Error("P4.1:", i, e)
		}
		if d, e := Root(x.l); e != x.e || (e != api.OK) != (d == api.Digest{}) {
			t.Error("P4.2:", i, e)
		}
		if p, e := Prove(x.l, "c"); e != x.e || e != api.OK && !reflect.DeepEqual(p, Proof{}) {
			t.Error("P4.3:", i, e)
		}
		if p, e := Range(x.l, "c", "b"); e != max(x.e, api.ErrRange) && e != x.e || !reflect.DeepEqual(p, Proof{}) {
			t.Error("P4.5:", i, e)
		}
	}
}

func TestRoot(t *testing.T) {
	for n := range 20 {
		l := leaves(n)
		want := hash.Of(api.TagNode, string(wire.Int(n)))
		if n > 0 {
			d := digest(l...)
			want = hash.Of(api.TagNode, string(wire.Int(n)), string(d[:]))
		}
		if d, e := Root(l); d != want || e != api.OK {
			t.Error("P4.2:", n, d, e)
		}
	}
}

func TestExamples(t *testing.T) {
	root, _ := Root(example)
	a, c, d, f, g := example[0], example[1], example[2], example[3], example[4]
	for key, want := range map[string]Proof{
		"c": {1, 5, []Leaf{c}, []api.Digest{digest(a), digest(d, f), digest(g)}},
		"e": {2, 5, []Leaf{d, f}, []api.Digest{digest(a, c), digest(g)}},
		"h": {4, 5, []Leaf{g}, []api.Digest{digest(a, c, d, f)}},
		"A": {0, 5, []Leaf{a}, []api.Digest{digest(c), digest(d, f), digest(g)}},
	} {
		if p, e := Prove(example, key); !reflect.DeepEqual(p, want) || e != api.OK {
			t.Error("P4.3:", key, p, e)
		}
	}
	p, _ := Prove(example, "e")
	if v, ok, e := Check(root, "e", p); v != "" || ok || e != api.OK {
		t.Error("P4.4:", v, ok, e)
	}
	if v, ok, e := Check(root, "d", p); v != "3" || !ok || e != api.OK {
		t.Error("P4.4:", v, ok, e)
	}
	if v, ok, e := Check(root, "c", p); v != "" || ok || e != api.ErrProof {
		t.Error("P4.4:", v, ok, e)
	}
	if p, e := Range(example, "c", "f"); !reflect.DeepEqual(p, Proof{0, 5, []Leaf{a, c, d, f}, []api.Digest{digest(g)}}) || e != api.OK {
		t.Error("P4.5:", p, e)
	}
	if p, e := Range(example, "b", "c"); !reflect.DeepEqual(p, Proof{0, 5, []Leaf{a, c}, []api.Digest{digest(d, f), digest(g)}}) || e != api.OK {
		t.Error("P4.5:", p, e)
	}
}

func TestComplete(t *testing.T) {
	keys := []string{"", "zz", "A)"}
	for _, x := range leaves(70) {
		keys = append(keys, x.Key, x.Key+"!")
	}
	slices.Sort(keys)
	for _, n := range []int{0, 1, 2, 3, 7, 8, 9, 33, 70} {
		l := leaves(n)
		root, _ := Root(l)
		values := map[string]string{}
		for _, x := range l {
			values[x.Key] = x.Value
		}
		for i, key := range keys {
			p, _ := Prove(l, key)
			want, there := values[key]
			if v, ok, e := Check(root, key, p); v != want || ok != there || e != api.OK || len(p.Sides) > 24 {
				t.Fatal("P4.8:", n, key, v, ok, e)
			}
			for j := i; j < len(keys); j += 7 {
				p, _ := Range(l, key, keys[j])
				var in []Leaf
				for _, x := range l {
					if key <= x.Key && x.Key < keys[j] {
						in = append(in, x)
					}
				}
				if got, e := CheckRange(root, key, keys[j], p); !slices.Equal(got, in) || e != api.OK {
					t.Fatal("P4.8:", n, key, keys[j], got, e)
				}
			}
		}
	}
}

func TestRefused(t *testing.T) {
	root, _ := Root(example)
	good, _ := Prove(example, "d")
	for i, change := range []func(*Proof){
		func(p *Proof) { p.First++ }, func(p *Proof) { p.First = -1 }, func(p *Proof) { p.Size++ }, func(p *Proof) { p.Size = 0 }, func(p *Proof) { p.Size = -1 }, func(p *Proof) { p.First = math.MaxInt },
		func(p *Proof) { p.Size = 4097 }, func(p *Proof) { p.Leaves = nil }, func(p *Proof) { p.Sides = p.Sides[1:] }, func(p *Proof) { p.Sides = append(p.Sides, api.Digest{}) }, func(p *Proof) { p.Leaves[0].Value = "x" },
		func(p *Proof) { p.Leaves = append(p.Leaves, p.Leaves[0]) }, func(p *Proof) { p.Sides[0][3] ^= 1 },
	} {
		p := Proof{good.First, good.Size, slices.Clone(good.Leaves), slices.Clone(good.Sides)}
		change(&p)
		if v, ok, e := Check(root, "d", p); v != "" || ok || e != api.ErrProof {
			t.Error("P4.4, P4.9:", i, v, ok, e)
		}
		if l, e := CheckRange(root, "c", "e", p); len(l) != 0 || e != api.ErrProof {
			t.Error("P4.6, P4.9:", i, l, e)
		}
	}
	if l, e := CheckRange(root, "d", "c", good); len(l) != 0 || e != api.ErrRange {
		t.Error("P4.6:", l, e)
	}
	for _, x := range [][2]string{{"d", "d"}, {"c", "d"}, {"d", "e"}} {
		if l, e := CheckRange(root, x[0], x[1], good); len(l) != 0 || e != api.ErrProof {
			t.Error("P4.6: no leaf before or behind:", x, l, e)
		}
	}
	p, _ := Range(example, "c", "f")
	if l, e := CheckRange(root, "", "e", p); !slices.Equal(l, example[:3]) || e != api.OK {
		t.Error("P4.6: a lesser range:", l, e)
	}
	empty, _ := Root(nil)
	if v, ok, e := Check(empty, "x", Proof{Sides: []api.Digest{{}}}); v != "" || ok || e != api.ErrProof {
		t.Error("P4.4: sides of no leaves:", e)
	}
	if _, ok, e := Check(empty, "x", Proof{}); ok || e != api.OK {
		t.Error("P4.4: no leaves:", e)
	}
	other, _ := Root(example[:4])
	if other == root {
		t.Error("P4.10")
	}
}

func TestBytes(t *testing.T) {
	p, _ := Range(example, "b", "c")
	b := Encode(p)
	want := slices.Concat(wire.Ints([]int{0, 5}), wire.Strings([]string{"a", "1", "c", "2"}), wire.Digests(p.Sides))
	if !slices.Equal(b, want) {
		t.Error("P4.7:", b)
	}
	if q, used, e := Decode(append(slices.Clone(b), 9, 9)); !reflect.DeepEqual(p, q) || used != len(b) || e != api.OK {
		t.Error("P4.11:", q, used, e)
	}
	for k := range b {
		if q, used, e := Decode(b[:k]); !reflect.DeepEqual(q, Proof{}) || used != 0 || e != api.ErrMore {
			t.Error("P4.11:", k, q, used, e)
		}
	}
	for _, b := range [][]byte{wire.Ints([]int{1}), wire.Ints([]int{1, 2, 3}), slices.Concat(wire.Ints([]int{1, 2}), wire.Strings([]string{"a"})), {1}, append(wire.Ints([]int{1, 2}), 1), append(wire.Ints([]int{1, 2}), 128, 1)} {
		if q, used, e := Decode(b); !reflect.DeepEqual(q, Proof{}) || used != 0 || e != api.ErrForm {
			t.Error("P4.7:", b, q, used, e)
		}
	}
}
