package withhold

import (
	"slices"
	"testing"

	"passim/api"
)

func TestDescendants(t *testing.T) {
	h := example(t, hold(c, 3), op(api.Op{Kind: api.OpRewrite, At: c, N: 1, Texts: []string{"x y"}, Pairs: [][2]int{{0, 0}}}), op(api.Op{Kind: api.OpSplit, At: id(8, 0), N: 1}), edition1)
	if l, e := Held(h, 1, 3); !slices.Equal(l, []api.ID{id(9, 0), id(9, 1)}) || e != api.OK {
		t.Error("P40.1, P40.9:", l, e)
	}
	if n, ok, _ := Since(h, id(9, 1), 1); n != 3 || !ok {
		t.Error("P40.6:", n, ok)
	}
}

func TestVoidOrders(t *testing.T) {
	later := id(8, 0)
	h := example(t, hold(later, 0), insert(0, api.Para, "new"), edition1)
	if l, _ := Held(h, 1, 9); len(l) > 0 {
		t.Error("P40.1: an order that is void:", l)
	}
	if n, ok, _ := Since(h, later, 1); n != 0 || ok {
		t.Error("P40.6:", n, ok)
	}
	h = example(t, hold(c, 1), op(api.Op{Kind: api.OpSplit, At: d, N: 9}), free(id(40, 0), 2), edition1)
	if l, _ := Held(h, 0, 9); !slices.Equal(l, []api.ID{c}) {
		t.Error("P40.1:", l)
	}
}
