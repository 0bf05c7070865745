package host

import (
	"testing"

	"passim/api"
)

func TestAgain(t *testing.T) {
	l := hosts(t, 2)
	l[0].Say(edition)
	p := l[0].Out()[0]
	for range 300 {
		if e := l[1].In(p); e != api.OK {
			t.Fatal("P43.4:", e)
		}
	}
	if _, e := l[1].Say(edition); e != api.OK || len(l[1].Events()) != 2 {
		t.Error("P43.4: what is known is not written again:", e)
	}
	l[1].Say(edition)
	if out := l[1].Out(); len(out) != 1 {
		t.Error("P43.3:", out)
	}
}

func TestDown(t *testing.T) {
	l := hosts(t, 2)
	for range 3 {
		l[0].Say(edition)
	}
	p := l[0].Out()[0]
	l[1].Trip(3)
	if e := l[1].In(p); e != api.ErrDown || l[1].Up() {
		t.Error("P43.4:", e)
	}
	l[1].Crash(nil)
	if n := len(l[1].Events()); n < 1 || n > 2 {
		t.Error("P43.8:", n)
	}
	if e := l[1].In(p); e != api.OK || len(l[1].Events()) != 3 {
		t.Error("P43.4:", e)
	}
}
