package parts

import (
	"slices"
	"testing"

	"passim/api"
	"passim/wire"
)

func TestReader(t *testing.T) {
	b := slices.Concat(wire.Int(5), wire.Bytes("ode"), wire.Ints([]int{1, 2}))
	r := Of(append(slices.Clone(b), 9))
	n, s := Next(r, wire.GetInt, Any), Next(r, wire.GetBytes, Any)
	l := Next(r, wire.GetInts, func(l []int) bool { return len(l) == 2 })
	if used, e := r.Used(); n != 5 || s != "ode" || !slices.Equal(l, []int{1, 2}) || used != len(b) || e != api.OK || r.Whole() {
		t.Error(n, s, l, used, e)
	}
	r = Of(b)
	n = Next(r, wire.GetInt, func(n int) bool { return n < 5 })
	s = Next(r, wire.GetBytes, Any)
	if used, e := r.Used(); n != 0 || s != "" || used != 0 || e != api.ErrForm || r.Whole() {
		t.Error(n, s, used, e)
	}
	r = Of(b[:1])
	if Next(r, wire.GetInt, Any); r.err != api.ErrMore || r.Whole() || !Of(nil).Whole() {
		t.Error(r.err)
	}
}
