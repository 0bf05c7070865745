package collate

import (
	"slices"
	"strings"
	"testing"

	"passim/api"
)

func TestLimits(t *testing.T) {
	s := Spec{Skip: slices.Repeat([]string{"a"}, 16)}
	for c := byte(33); len(s.Order) < 64; c++ {
		s.Order = append(s.Order, string([]byte{c}))
	}
	if e := Valid(s); e != api.OK {
		t.Error("P31.1:", e)
	}
	long := strings.Repeat("b", 4096)
	k, e := Key(s, long)
	if n, e2 := Compare(s, long, long); n != 0 || e != api.OK || e2 != api.OK || len(k) != 1 {
		t.Error("P31.2, P31.3:", n, e, e2, len(k))
	}
	if l, e := Paths(s, slices.Repeat([][]string{{"x"}}, 1000)); len(l) != 1000 || e != api.OK {
		t.Error("P31.5:", e)
	}
	if l, ok, e := Total(65, nil); len(l) > 0 || ok || e != api.ErrLimit {
		t.Error("P31.6:", l, ok, e)
	}
	if n, e := Compare(Spec{Order: []string{""}}, "a", "b"); n != 0 || e != api.ErrArg {
		t.Error("P31.3:", n, e)
	}
	var pairs [][2]int
	for a := range 64 {
		for b := range 64 {
			if a <= b {
				pairs = append(pairs, [2]int{a, b})
			}
		}
	}
	if l, ok, e := Total(64, pairs); len(l) > 0 || !ok || e != api.OK {
		t.Error("P31.6:", l, ok, e)
	}
}
