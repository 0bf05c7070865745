package history

import (
	"slices"
	"testing"

	"passim/api"
	"passim/descent"
)

func TestDirectOrder(t *testing.T) {
	h := play(t, number(op(api.Op{Kind: api.OpVolume}), op(api.Op{Kind: api.OpArticle, Text: "x"}), op(api.Op{Kind: api.OpInsert, Text: "a b"}), op(api.Op{Kind: api.OpInsert, Text: "c d"}),
		op(api.Op{Kind: api.OpSplit, At: id(0, 3, 0), N: 1}), op(api.Op{Kind: api.OpSplit, At: id(0, 2, 0), N: 1}), op(api.Op{Kind: api.OpMove, At: id(0, 4, 0)})))
	want := []api.Link{link(id(0, 2, 0), id(0, 5, 0)), link(id(0, 2, 0), id(0, 5, 1)), link(id(0, 3, 0), id(0, 4, 0)), link(id(0, 3, 0), id(0, 4, 1))}
	if l := h.Direct(); !slices.Equal(l, want) || !slices.Equal(l, descent.Sort(l)) {
		t.Error("P11.4:", l)
	}
	h.Direct()[0].From = id(5, 5, 5)
	if !slices.Equal(h.Direct(), want) {
		t.Error("P11.4: memory is shared")
	}
}
