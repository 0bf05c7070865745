package journal

import (
	"slices"
	"testing"

	"passim/api"
)

func TestLast(t *testing.T) {
	d := newDisk(t, 3)
	write(d, pack1(t, 4095, "x"))
	j := open(t, d)
	if n, e := j.Append("y"); n != 4096 || e != api.OK {
		t.Error("P39.4:", n, e)
	}
	if n, e := j.Append("z"); n != 0 || e != api.ErrLimit {
		t.Error("P39.4:", n, e)
	}
	if j := open(t, d); !slices.Equal(j.Numbers(), []int{4095, 4096}) || j.Next() != 4097 || len(j.Damaged()) != 4094 {
		t.Error("P39.3:", j.Numbers(), j.Next())
	}
	one := newDisk(t, 1)
	write(one, pack1(t, 1, "q"))
	if j := open(t, one); !slices.Equal(j.Texts(), []string{"q"}) || j.Room() != 0 {
		t.Error("P39.2:", j.Texts())
	}
	for n := range 3 {
		e := newDisk(t, 9)
		e.Trip(n)
		if k, err := open(t, e).Append(string(make([]byte, 60))); k != 0 || err != api.ErrDown {
			t.Error("P39.4:", n, k, err)
		}
	}
}
