package judge

import (
	"testing"

	"passim/api"
)

func TestLimits(t *testing.T) {
	var ids []api.ID
	var pairs [][2]int
	for k := range api.MaxPassages {
		ids, pairs = append(ids, api.ID{K: k}), append(pairs, [2]int{0, 1})
	}
	if l, e := Outcome(nil, ids, pairs); len(l) != api.MaxPassages || e != api.OK {
		t.Error("P25.3:", len(l), e)
	}
	for _, p := range [][2]int{{6, 0}, {0, 6}, {-1, 0}, {0, -1}} {
		if _, e := Outcome(nil, ids[:1], [][2]int{p}); e != api.ErrArg {
			t.Error("P25.3:", p, e)
		}
	}
	l := []api.Event{post(1, 2, 9, a), post(1, 0, 1, a), post(1, 1, 5, a)}
	if n := Latest(l, 1, a); n != 0 {
		t.Error("P25.2:", n)
	}
}
