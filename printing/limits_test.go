package printing

import (
	"slices"
	"testing"

	"passim/api"
	"passim/page"
)

func TestLimits(t *testing.T) {
	x := Issue{Edition: 15, States: [][]int{nil}}
	for n := range 999 {
		x.Pages = append(x.Pages, leafPage(7, n+1, a))
	}
	for k := range 12 {
		x.Changes = append(x.Changes, Change{Lose, 7, k + 1, nil})
	}
	for s := 1; s < 64; s++ {
		var state []int
		for k := range 6 {
			if s>>k&1 == 1 {
				state = append(state, k)
			}
		}
		x.States = append(x.States, state)
	}
	if e := Valid(x); e != api.OK {
		t.Error("P15.1:", e)
	}
	x.States[63] = []int{0, 0}
	if e := Valid(x); e != api.ErrArg {
		t.Error("P15.1:", e)
	}
	x.States = [][]int{{0}}
	if e := Valid(x); e != api.ErrArg {
		t.Error("P15.1: the first state:", e)
	}
	x.States, x.Pages = [][]int{nil}, append(x.Pages, leafPage(7, 1000))
	if e := Valid(x); e != api.ErrArg {
		t.Error("P15.1:", e)
	}
	for _, v := range []int{8, -1} {
		y := Issue{Pages: []page.Page{leafPage(v, 1)}, States: [][]int{nil}}
		if e := Valid(y); e != api.ErrArg {
			t.Error("P15.1: the volume", v, e)
		}
	}
}

func TestMissing(t *testing.T) {
	x := example()
	x.Changes = append(x.Changes, Change{Missing, 0, 0, nil}, Change{Slip, 0, 1, []page.Page{leafPage(0, 1, b)}})
	x.States = [][]int{nil, {2, 4}, {1, 5}}
	third, fourth := c, d
	c, e := Read(x, 1)
	if !slices.Equal(c.Missing, []int{0, 1, 2}) || e != api.OK {
		t.Error("P15.2:", c.Missing, e)
	}
	d, _ := Read(x, 2)
	if l := Has(d); !slices.Equal(l, []api.ID{a, b, third, fourth}) {
		t.Error("P15.7:", l)
	}
	// A Slip and a Missing with the number of a leaf do not clash with a Lose of this.
	x.Changes[1], x.Changes[2] = Change{Slip, 0, 2, []page.Page{leafPage(0, 2, a)}}, Change{Lose, 0, 2, nil}
	x.States = [][]int{nil, {1, 2, 3}}
	if e := Valid(x); e != api.OK {
		t.Error("P15.1:", e)
	}
}
