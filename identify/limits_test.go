package identify

import (
	"testing"

	"passim/api"
	"passim/page"
	"passim/printing"
)

// TestTen has ten states, for which the greedy tree costs more than the best one: a page tells most states apart at once, but dearly.
func TestTen(t *testing.T) {
	x := printing.Issue{Pages: []page.Page{leaf(0, 1, line(a, "w")), leaf(0, 2, line(a, "w")), leaf(0, 3, line(a, "w")), leaf(0, 4, line(a, "w")), leaf(0, 5, line(a, "w")), leaf(0, 6, line(a, "w"))}, States: [][]int{nil}}
	for k := range 9 {
		p := leaf(0, 1, line(a, string([]byte{byte('a' + k)})))
		x.Changes = append(x.Changes, printing.Change{Kind: printing.Cancel, At: 1, Pages: []page.Page{p, x.Pages[1]}})
		x.States = append(x.States, []int{k})
	}
	class := []int{0, 0, 0, 0, 0, 1, 1, 1, 1, 1}
	x.Changes = append(x.Changes, printing.Change{Kind: printing.Slip, At: 3, Pages: []page.Page{leaf(0, 3, line(a, "s"))}})
	for s := 5; s < 10; s++ {
		x.States[s] = append(x.States[s], 9)
	}
	_, tree, cost, e := Plan(x, class)
	if cost != 1 || len(tree.Kids) != 2 || e != api.OK {
		t.Error("P17.4: the best tree of ten states:", cost, e)
	}
	x.Changes = append(x.Changes, printing.Change{Kind: printing.Slip, At: 5, Pages: []page.Page{leaf(0, 5, line(a, "s"))}})
	x.States, class = append(x.States, []int{10}), append(class, 0)
	if _, _, cost, e := Plan(x, class); cost < 2 || e != api.OK {
		t.Error("P17.4: the greedy tree of eleven states:", cost, e)
	}
}

func TestAlikeApart(t *testing.T) {
	x := printing.Issue{Pages: []page.Page{leaf(0, 1, line(a, "x")), leaf(0, 2, line(b, "x"))}, Changes: []printing.Change{{Kind: printing.Cancel, At: 1, Pages: []page.Page{leaf(0, 1, line(b, "x")), leaf(0, 2, line(a, "x"))}}}, States: [][]int{nil, {0}}}
	if l, _ := Alike(x, []api.ID{a, b}); l[1] != 1 {
		t.Error("P17.3:", l)
	}
	y := printing.Issue{Pages: []page.Page{leaf(0, 1, line(a, "x")), leaf(0, 2)}, Changes: []printing.Change{{Kind: printing.Cancel, At: 1, Pages: []page.Page{leaf(0, 1, line(b, "x")), leaf(0, 2)}}}, States: [][]int{nil, {0}}}
	if l, _ := Alike(y, []api.ID{a, b}); l[1] != 1 {
		t.Error("P17.3: the same page, but of another passage:", l)
	}
	if l := Asks(y); len(l) != 0 {
		t.Error("P17.1:", l)
	}
	z := printing.Issue{Pages: []page.Page{leaf(0, 1, line(a, "x"), line(a, "y"))}, Changes: []printing.Change{{Kind: printing.Cancel, At: 1, Pages: []page.Page{leaf(0, 1, line(a, "y"))}}}, States: [][]int{nil, {0}}}
	if l := Asks(z); len(l) != 1 || l[0] != (Ask{Lines, 0}) {
		t.Error("P17.1: the number of lines is asked last:", l)
	}
}
