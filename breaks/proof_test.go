package breaks

import (
	"testing"

	"passim/api"
)

func TestProofs(t *testing.T) {
	for i, x := range []struct {
		widths []int
		width  int
		c      Cert
		e      api.Errno
	}{
		// The last line may have both words, though two lines are claimed to be needed.
		{[]int{1, 1}, 3, Cert{[]int{1, 2}, []int{2, 1, 0}, []int{4, 0, 0}}, api.ErrProof},
		{[]int{1, 1}, 3, Cert{[]int{2}, []int{1, 1, 0}, []int{0, 0, 0}}, api.OK},
		// A line that just fits counts.
		{[]int{1, 1, 3}, 3, Cert{[]int{1, 2, 3}, []int{3, 2, 1, 0}, []int{8, 4, 0, 0}}, api.ErrProof},
		{[]int{1, 1, 3}, 3, Cert{[]int{2, 3}, []int{2, 2, 1, 0}, []int{0, 4, 0, 0}}, api.OK},
		{[]int{1, 1, 3}, 3, Cert{[]int{2, 3}, []int{2, 3, 1, 0}, []int{0, 4, 0, 0}}, api.ErrProof},
		{[]int{1, 1, 3}, 3, Cert{[]int{2, 3}, []int{2, 2, 1, 0}, []int{0, 5, 0, 0}}, api.ErrProof},
		{[]int{1, 1, 3}, 3, Cert{[]int{2, 3}, []int{2, 1, 1, 0}, []int{0, 1 << 32, 0, 0}}, api.OK},
		{[]int{1, 1, 3}, 3, Cert{[]int{2, 3}, []int{2, -1, 1, 0}, []int{0, 4, 0, 0}}, api.ErrProof},
		{[]int{1, 1, 3}, 3, Cert{[]int{2, 3}, []int{2, 2, 1, 0}, []int{0, 4, 1, 0}}, api.ErrProof},
		{[]int{1, 1, 3}, 3, Cert{[]int{2, 3}, []int{2, 2, 2, 0}, []int{0, 4, 0, 0}}, api.ErrProof},
		{nil, 3, Cert{nil, []int{0}, []int{0}}, api.OK},
		{nil, 3, Cert{nil, []int{1}, []int{0}}, api.ErrProof},
		{nil, 3, Cert{nil, nil, nil}, api.ErrProof},
	} {
		if e := Check(x.widths, 1, x.width, x.c); e != x.e {
			t.Error("P12.2:", i, e)
		}
	}
	if l, e := Greedy(nil, 1, 3); len(l) > 0 || e != api.OK {
		t.Error("P12.4:", l, e)
	}
	if lines, cost, e := Cost([]int{-1}, 1, 3, nil); lines != 0 || cost != 0 || e != api.ErrArg {
		t.Error("P12.3:", lines, cost, e)
	}
	// A lesser number of lines behind the line that is taken proves as much.
	if e := Check([]int{3, 3, 3}, 1, 3, Cert{[]int{1, 2, 3}, []int{3, 2, 1, 0}, []int{0, 0, 0, 0}}); e != api.OK {
		t.Error("P12.2:", e)
	}
}
