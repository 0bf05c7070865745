package impose

import (
	"slices"
	"testing"

	"passim/api"
)

func TestLimits(t *testing.T) {
	if n, front := Leaf(1); n != 1 || !front {
		t.Error("P14.4:", n, front)
	}
	if n, front := Leaf(2); n != 1 || front {
		t.Error("P14.4:", n, front)
	}
	if n, e := Conjugate(-1, 4, 1); n != 0 || e != api.ErrArg {
		t.Error("P14.5:", n, e)
	}
	if l, e := Sheets(40, 4, []int{1, 4, 5, 7, 20}); !slices.Equal(l, []int{0, 2, 3, 8}) || e != api.OK {
		t.Error("P14.6:", l, e)
	}
}
