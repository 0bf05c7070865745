package sign

import (
	"strings"
	"testing"

	"passim/api"
)

func TestLimits(t *testing.T) {
	public, e := Public(seed, MaxHeight)
	if e != api.OK {
		t.Fatal("P3.1:", e)
	}
	long := strings.Repeat("m", 1<<20)
	s, e := Sign(seed, MaxHeight, 63, long)
	if n, e2 := Verify(public, MaxHeight, long, s); n != 63 || e != api.OK || e2 != api.OK {
		t.Error("P3.3, P3.4:", n, e, e2)
	}
}
