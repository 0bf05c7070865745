package merkle

import (
	"strconv"
	"testing"

	"passim/api"
)

func TestLimits(t *testing.T) {
	var l []Leaf
	for i := range api.MaxLeaves {
		l = append(l, Leaf{strconv.Itoa(100000 + i), "v"})
	}
	root, e := Root(l)
	p, e2 := Prove(l, l[77].Key)
	if v, ok, e3 := Check(root, l[77].Key, p); v != "v" || !ok || e != api.OK || e2 != api.OK || e3 != api.OK || len(p.Sides) != 12 {
		t.Error("P4.1, P4.8:", v, ok, e, e2, e3)
	}
}

// TestRoots makes roots under which proofs that are none would fit.
func TestRoots(t *testing.T) {
	x := Leaf{"b", "1"}
	one := row([]Leaf{x})
	for i, p := range []Proof{{Size: 4097, Sides: nil, Leaves: []Leaf{x}}, {Size: -1}, {First: -1, Size: 1, Leaves: []Leaf{x}}, {First: 1, Size: 1, Leaves: []Leaf{x}}, {Size: 2, Leaves: []Leaf{x, x}}, {Size: 1, Sides: []api.Digest{one}}} {
		for _, root := range []api.Digest{top(p.Size, one), top(p.Size, join(one, one)), top(0, api.Digest{})} {
			if v, ok, e := Check(root, "b", p); v != "" || ok || e != api.ErrProof {
				t.Error("P4.4:", i, v, ok, e)
			}
		}
	}
	single := Proof{Size: 1, Leaves: []Leaf{x}}
	for _, key := range []string{"a", "c"} {
		if _, ok, e := Check(top(1, one), key, single); ok || e != api.OK {
			t.Error("P4.4: one leaf:", key, e)
		}
	}
	last := Proof{First: 0, Size: 2, Leaves: []Leaf{x}, Sides: []api.Digest{one}}
	if _, _, e := Check(top(2, join(one, one)), "c", last); e != api.ErrProof {
		t.Error("P4.4: not the last leaf:", e)
	}
}
