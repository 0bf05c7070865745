package link

import (
	"testing"

	"passim/api"
)

func TestLimits(t *testing.T) {
	a, b := end(t, 1), end(t, 1)
	long := make([]byte, api.MaxBytes)
	if e := a.Send(long); e != api.OK {
		t.Error("P37.1:", e)
	}
	p := a.Out()[0]
	if l, e := b.In(p); len(l) != 1 || len(l[0]) != api.MaxBytes || e != api.OK {
		t.Error("P37.3:", e)
	}
	b.Out()
	if l, e := b.In(p); len(l) > 0 || e != api.OK || len(b.held) > 0 || len(b.Out()) != 1 {
		t.Error("P37.3: the last message again:", e, len(b.held))
	}
}
