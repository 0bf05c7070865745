package host

import (
	"math/rand"
	"reflect"
	"slices"
	"strings"
	"testing"

	"passim/api"
	"passim/archive"
	"passim/event"
	"passim/link"
	"passim/wire"
)

const key = 99

var edition = api.Event{Kind: api.EvEdition}

func hosts(t *testing.T, n int) []*Host {
	var l []*Host
	for i := range n {
		h, e := New(i, n, key)
		if e != api.OK {
			t.Fatal("P43.1:", e)
		}
		l = append(l, h)
	}
	return l
}

func same(a, b []api.Event) bool { return slices.EqualFunc(a, b, event.Same) }

func TestExample(t *testing.T) {
	l := hosts(t, 2)
	e, err := l[0].Say(edition)
	if e.By != 0 || e.Seq != 0 || e.Tick != 1 || err != api.OK {
		t.Error("P43.2:", e, err)
	}
	out := l[0].Out()
	if len(out) != 1 || out[0].To != 1 || out[0].From != 0 || len(l[1].Out()) != 0 {
		t.Fatal("P43.3:", out)
	}
	heads := l[0].archive.Heads()
	inner := slices.Concat(wire.Ints([]int{0, 1, 1, 0}), wire.Digests([]api.Digest{heads[0].Sum, {}}), archive.Encode([]api.Event{e}))
	if !reflect.DeepEqual(out[0].Bytes, link.Seal(key, inner)) {
		t.Error("P43.3: the bytes")
	}
	forged := Packet{0, 1, slices.Clone(out[0].Bytes)}
	forged.Bytes[5]++
	if err := l[1].In(forged); err != api.ErrSum || l[1].Forged() != 1 || len(l[1].Events()) > 0 {
		t.Error("P43.4, P43.10:", err)
	}
	if err := l[1].In(out[0]); err != api.OK || !same(l[1].Events(), []api.Event{e}) {
		t.Error("P43.4:", err)
	}
	back := l[1].Out()
	if len(back) != 1 {
		t.Fatal("P43.3:", back)
	}
	if m, ok := decode(back[0].Bytes[:len(back[0].Bytes)-8], 2); !ok || len(m.events) > 0 {
		t.Error("P43.3: a packet without events")
	}
	if err := l[0].In(back[0]); err != api.OK || len(l[0].Out())+len(l[1].Out()) > 0 {
		t.Error("P43.3:", err)
	}
	l[0].Trip(0)
	if _, err := l[0].Say(edition); err != api.ErrDown || l[0].Up() || len(l[0].Events())+len(l[0].Out()) > 0 {
		t.Error("P43.2, P43.5:", err)
	}
	_, err = l[0].History()
	_, err2 := l[0].Say(edition)
	if err != api.ErrDown || err2 != api.ErrDown || l[0].In(back[0]) != api.ErrDown {
		t.Error("P43.2, P43.4, P43.5:", err, err2)
	}
	if err := l[0].Crash(nil); err != api.OK || !same(l[0].Events(), []api.Event{e}) || len(l[0].Out()) != 1 || len(l[0].Out()) != 1 {
		t.Error("P43.6:", err)
	}
	l[1].Crash(nil)
	if l[1].Forged() != 0 {
		t.Error("P43.6: Forged")
	}
}

func TestErrors(t *testing.T) {
	for _, x := range [][2]int{{0, 0}, {0, 6}, {-1, 2}, {2, 2}} {
		if h, e := New(x[0], x[1], key); h != nil || e != api.ErrArg {
			t.Error("P43.1:", x, e)
		}
	}
	l := hosts(t, 3)
	good := func() []byte {
		return slices.Concat(wire.Ints([]int{1, 0, 0, 0, 0}), wire.Digests(make([]api.Digest, 3)), archive.Encode(nil))
	}
	for i, x := range []struct {
		p Packet
		e api.Errno
	}{
		{Packet{1, 1, nil}, api.ErrArg}, {Packet{0, 0, nil}, api.ErrArg}, {Packet{3, 0, nil}, api.ErrArg}, {Packet{-1, 0, nil}, api.ErrArg}, {Packet{1, 0, nil}, api.ErrForm}, {Packet{1, 0, make([]byte, 8)}, api.ErrSum}, {Packet{1, 0, link.Seal(key, nil)}, api.ErrForm}, {Packet{1, 0, link.Seal(key, good())}, api.OK}, {Packet{2, 0, link.Seal(key, good())}, api.ErrForm},
		{Packet{1, 0, link.Seal(key, append(good(), 0))}, api.ErrForm}, {Packet{1, 0, link.Seal(key, slices.Concat(wire.Ints([]int{1, 2, 0, 0, 0}), wire.Digests(make([]api.Digest, 3)), archive.Encode(nil)))}, api.ErrForm}, {Packet{1, 0, link.Seal(key, slices.Concat(wire.Ints([]int{1, 0, 0, 0}), wire.Digests(make([]api.Digest, 3)), archive.Encode(nil)))}, api.ErrForm},
		{Packet{1, 0, link.Seal(key, slices.Concat(wire.Ints([]int{1, 0, 0, 0, 0}), wire.Digests(make([]api.Digest, 2)), archive.Encode(nil)))}, api.ErrForm}, {Packet{1, 0, link.Seal(key, slices.Concat(wire.Ints([]int{1, 0, -5, 9, 0}), wire.Digests(make([]api.Digest, 3)), archive.Encode([]api.Event{{By: 1, Seq: 7, Tick: 9, Kind: 1}})))}, api.OK},
	} {
		if e := l[0].In(x.p); e != x.e || len(l[0].Events()) > 0 {
			t.Error("P43.4:", i, e)
		}
	}
	if out := l[0].Out(); l[0].Forged() != 1 || len(out) != 1 || out[0].To != 1 {
		t.Error("P43.3, P43.4: it owes a packet, though nothing was learned")
	}
	long := api.Event{Kind: api.EvEdit, Op: api.Op{Text: strings.Repeat("x", 9000)}}
	if _, e := l[0].Say(long); e != api.ErrLimit || len(l[0].Events()) > 0 {
		t.Error("P43.2:", e)
	}
	if _, e := l[0].Say(api.Event{Kind: 99}); e != api.ErrArg {
		t.Error("P43.2:", e)
	}
	big := api.Event{Kind: api.EvEdit, Op: api.Op{Text: strings.Repeat("x", 7000)}}
	l[0].Say(big)
	if _, e := l[0].Say(big); e != api.ErrFull || len(l[0].Events()) != 1 || !l[0].Up() {
		t.Error("P43.2:", e)
	}
	var none *Host
	none.Trip(1)
	_, e := none.Say(edition)
	_, e2 := none.History()
	if e != api.ErrArg || e2 != e || none.In(Packet{}) != e || none.Crash(nil) != e || none.Up() || none.Forged() != 0 || none.Copy() != nil || none.Out() != nil || none.Events() != nil {
		t.Error("a nil host")
	}
}

func TestHistory(t *testing.T) {
	h := hosts(t, 1)[0]
	h.Say(edition)
	x, e := h.History()
	again, _ := h.History()
	if x.Editions() != 1 || e != api.OK || again.Editions() != 1 {
		t.Error("P43.5:", e)
	}
	c := h.Copy()
	h.Say(edition)
	if x, _ := h.History(); x.Editions() != 2 {
		t.Error("P43.5: the history has changed")
	}
	if x, _ := c.History(); x.Editions() != 1 || len(c.Events()) != 1 {
		t.Error("P43.6: a copy is not independent")
	}
	c.Say(edition)
	c.Say(edition)
	c.Trip(0)
	c.Say(edition)
	d := c.Copy()
	if d.Up() || !h.Up() || d.Crash(nil) != api.OK || len(d.Events()) != 3 || c.Up() || len(h.Events()) != 2 {
		t.Error("P43.6: a copy of a host that is down")
	}
}

// round delivers all packets of Out once.
func round(l []*Host) int {
	var all []Packet
	for _, h := range l {
		all = append(all, h.Out()...)
	}
	for _, p := range all {
		l[p.To].In(p)
	}
	return len(all)
}

func TestSpread(t *testing.T) {
	r := rand.New(rand.NewSource(1))
	for range 60 {
		l := hosts(t, 2+r.Intn(4))
		said := make([]int, len(l))
		var late []Packet
		for range 60 {
			i := r.Intn(len(l))
			switch r.Intn(6) {
			case 0, 1:
				var refs []api.Name
				if all := l[i].Events(); len(all) > 0 && r.Intn(2) == 0 {
					if n := event.Name(all[r.Intn(len(all))]); n.By != i {
						refs = append(refs, n)
					}
				}
				if e, err := l[i].Say(api.Event{Kind: api.EvEdition, Refs: refs}); err == api.OK {
					if e.Seq != said[i] {
						t.Fatal("P43.11:", e, said[i])
					}
					said[i]++
				}
			case 2:
				late = append(late, l[i].Out()...)
			case 3:
				if len(late) > 0 {
					p := late[r.Intn(len(late))]
					l[p.To].In(p)
				}
			case 4:
				checkCrash(t, r, l[i], &said[i])
			case 5:
				round(l)
			}
			if n, e := event.Closed(l[i].Events()); n != len(l[i].Events()) || e != api.OK {
				t.Fatal("P43.7:", n, e)
			}
		}
		for range 3 {
			round(l)
		}
		for i, h := range l {
			if !same(h.Events(), l[0].Events()) || len(h.Out()) > 0 {
				t.Fatal("P43.9:", i)
			}
			x, _ := h.History()
			y, _ := l[0].History()
			if !reflect.DeepEqual(x, y) {
				t.Fatal("P43.7")
			}
			n := 0
			for _, e := range h.Events() {
				if e.By == i {
					n++
				}
			}
			if n != said[i] {
				t.Fatal("P43.11:", n, said[i])
			}
		}
	}
}

// checkCrash lets the power of a host fail while it says something.
func checkCrash(t *testing.T, r *rand.Rand, h *Host, said *int) {
	before := h.Events()
	h.Trip(r.Intn(4))
	e, err := h.Say(edition)
	if err == api.OK {
		*said++
		before = append(before, e)
	}
	h.Crash([]int{r.Intn(70), r.Intn(70)})
	after := h.Events()
	before = event.Sort(before)
	if len(after) > len(before) && err != api.OK {
		*said++
		after = slices.DeleteFunc(after, func(e api.Event) bool { return event.Find(before, event.Name(e)) < 0 })
	}
	if !same(after, before) {
		t.Fatal("P43.8:", before, after)
	}
}
