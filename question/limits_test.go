package question

import (
	"testing"

	"passim/api"
)

func TestTen(t *testing.T) {
	ten := Table{Costs: []int{3, 1}}
	for i := range 10 {
		ten.Answers, ten.Class = append(ten.Answers, []int{i, i / 5}), append(ten.Class, i/5)
	}
	if x, cost, e := Best(ten); x.Ask != 1 || cost != 1 || e != api.OK {
		t.Error("P16.3:", cost, e)
	}
	ten.Class[0] = 7
	if x, cost, e := Best(ten); x.Ask != 0 || cost != 3 || e != api.OK {
		t.Error("P16.3:", cost, e)
	}
	if _, cost, e := Best(Table{}); cost != 0 || e != api.ErrArg {
		t.Error("P16.3:", cost, e)
	}
	if _, cost, e := Greedy(Table{}); cost != 0 || e != api.ErrArg {
		t.Error("P16.4:", cost, e)
	}
	for i, x := range []struct {
		t Table
		x *Tree
	}{{Table{}, leaf(1)}, {ten, leaf(1)}, {ten, ask(0, []int{99}, leaf(1))}, {ten, nil}} {
		if n, e := Check(x.t, x.x); n != 0 || e == api.OK {
			t.Error("P16.5:", i, n, e)
		}
	}
	one := []int{5, 1, 9, -1, 3}
	if x, e := Decode(one); e != api.OK || x.Ask != 5 || x.Kids[0].Class != 3 {
		t.Error("P16.7:", e)
	}
	if x, e := Decode([]int{5, 2, 9}); x != nil || e != api.ErrForm {
		t.Error("P16.7:", e)
	}
}
