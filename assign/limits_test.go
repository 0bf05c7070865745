package assign

import (
	"slices"
	"testing"

	"passim/api"
)

func TestSix(t *testing.T) {
	c := Case{[]int{3, 3, 2, 2, 2, 2}, 4, nil}
	pairs, load, p, e := Find(c)
	if want := brute(c); !slices.Equal(pairs, want) || load != p.Least || e != api.OK {
		t.Error("P26.3:", pairs, want, load, p)
	}
	c.Bars = [][2]int{{5, 3}, {0, 3}}
	pairs, _, _, _ = Find(c)
	if want := brute(c); !slices.Equal(pairs, want) {
		t.Error("P26.3:", pairs, want)
	}
	for i, b := range [][2]int{{-1, 0}, {0, -1}, {6, 0}, {0, 4}} {
		if e := Valid(Case{c.Sizes, 4, [][2]int{b}}); e != api.ErrArg {
			t.Error("P26.1:", i, e)
		}
	}
}

func TestNothing(t *testing.T) {
	bad := Case{People: 9}
	if n, e := Bound(bad, Cert{}); n != 0 || e != api.ErrArg {
		t.Error("P26.4:", n, e)
	}
	if n, e := Check(bad, nil, Cert{}); n != 0 || e != api.ErrArg {
		t.Error("P26.5:", n, e)
	}
	good := Case{[]int{3, 2}, 3, nil}
	for i, p := range []Cert{{[]int{0, 0}, []int{0, 1, 2}, 4}, {[]int{0, 1}, []int{0, 0}, 0}, {[]int{0}, []int{0, 1, 2}, 3}, {[]int{0}, nil, 4}} {
		n, e := Bound(good, p)
		m, e2 := Check(good, [][2]int{{0, 1}, {0, 1}}, p)
		if n != 0 || m != 0 || e != api.ErrProof || e2 != e {
			t.Error("P26.4, P26.5:", i, n, m, e, e2)
		}
	}
	if n, e := Check(good, [][2]int{{0, 3}, {0, 1}}, Cert{}); n != 0 || e != api.ErrArg {
		t.Error("P26.5:", n, e)
	}
}
