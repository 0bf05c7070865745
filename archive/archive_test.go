package archive

import (
	"math/rand"
	"slices"
	"testing"

	"passim/api"
	"passim/event"
	"passim/hash"
	"passim/wire"
)

func newArchive(t *testing.T, people int) *Archive {
	a, e := New(people)
	if e != api.OK {
		t.Fatal(e)
	}
	return a
}

func edition(by int, refs ...api.Name) api.Event {
	return api.Event{By: by, Kind: api.EvEdition, Refs: refs}
}

func same(a, b []api.Event) bool { return slices.EqualFunc(a, b, event.Same) }

func TestExample(t *testing.T) {
	a := newArchive(t, 2)
	one, e := a.Make(edition(1))
	if one.Seq != 0 || one.Tick != 1 || e != api.OK {
		t.Error("P42.2:", one, e)
	}
	two, e := a.Make(api.Event{Kind: api.EvHold, Refs: []api.Name{{By: 1}}})
	if two.Seq != 0 || two.Tick != 2 || e != api.OK {
		t.Error("P42.2:", two, e)
	}
	if x, e := a.Make(edition(0, api.Name{By: 1, Seq: 1})); !event.Same(x, api.Event{}) || e != api.ErrNeed {
		t.Error("P42.2:", x, e)
	}
	d, d2 := event.Digest(one), event.Digest(two)
	zero := string(make([]byte, 16))
	heads := []Head{{1, hash.Of(api.TagChain, zero, string(d2[:]))}, {1, hash.Of(api.TagChain, zero, string(d[:]))}}
	if h := a.Heads(); !slices.Equal(h, heads) || a.Clock() != 2 || !same(a.Events(), []api.Event{one, two}) {
		t.Error("P42.4:", h)
	}
	l, e := a.Want(make([]Head, 2))
	if !same(l, []api.Event{one, two}) || e != api.OK {
		t.Error("P42.5:", l, e)
	}
	b := newArchive(t, 2)
	if n, e := b.Take([]api.Event{two, one}); n != 0 || e != api.ErrNeed {
		t.Error("P42.3:", n, e)
	}
	if n, e := b.Take([]api.Event{one, one, two, one}); n != 2 || e != api.OK || !slices.Equal(b.Heads(), heads) {
		t.Error("P42.3, P42.10:", n, e)
	}
	other := edition(1)
	other.Tick = 9
	if n, e := b.Take([]api.Event{two, other}); n != 0 || e != api.ErrTwice {
		t.Error("P42.3, P42.11:", n, e)
	}
}

func TestErrors(t *testing.T) {
	for n, want := range map[int]api.Errno{0: api.ErrArg, 7: api.ErrArg, -1: api.ErrArg, 1: api.OK, 6: api.OK} {
		if a, e := New(n); e != want || (a == nil) != (e != api.OK) || a != nil && (len(a.Heads()) != n || a.Clock() != 0 || len(a.Events()) > 0) {
			t.Error("P42.1:", n, e)
		}
	}
	a := newArchive(t, 2)
	a.Make(edition(0))
	a.Make(edition(1))
	for i, x := range []struct {
		e   api.Event
		err api.Errno
	}{{api.Event{By: 1, Seq: 1, Tick: -1, Kind: 1}, api.ErrArg}, {api.Event{By: 2, Tick: 5, Kind: 1}, api.ErrArg}, {api.Event{By: 0, Tick: 2, Kind: 1}, api.ErrTwice}, {api.Event{By: 0, Seq: 2, Tick: 5, Kind: 1}, api.ErrNeed}, {api.Event{By: 0, Seq: 1, Tick: 1, Kind: 1}, api.ErrRange}, {api.Event{By: 0, Seq: 1, Tick: 2, Kind: 1, Refs: []api.Name{{By: 1}}}, api.ErrRange},
		{api.Event{By: 0, Seq: 1, Tick: 1, Kind: 1, Refs: []api.Name{{By: 1, Seq: 3}}}, api.ErrNeed}, {api.Event{By: 0, Seq: 1, Tick: 3, Kind: 1, Refs: make([]api.Name, 17)}, api.ErrLimit}, {api.Event{By: 0, Seq: 1, Tick: 2, Kind: 1}, api.OK}} {
		n, err := a.Take([]api.Event{x.e})
		if err != x.err || (n == 1) != (err == api.OK) {
			t.Error("P42.3:", i, n, err)
		}
	}
	for _, by := range []int{-1, 2} {
		if _, e := a.Make(api.Event{By: by, Refs: make([]api.Name, 17)}); e != api.ErrArg {
			t.Error("P42.2:", e)
		}
	}
	if _, e := a.Make(api.Event{Kind: 99}); e != api.ErrArg || a.Clock() != 2 {
		t.Error("P42.2:", e)
	}
	for i, x := range []struct {
		h []Head
		e api.Errno
	}{{nil, api.ErrArg}, {make([]Head, 3), api.ErrArg}, {[]Head{{-1, api.Digest{}}, {}}, api.ErrArg}, {[]Head{{1, api.Digest{}}, {65, api.Digest{}}}, api.ErrArg}, {[]Head{{1, api.Digest{}}, {}}, api.ErrSum}, {[]Head{{0, api.Digest{1}}, {}}, api.ErrSum}, {[]Head{{3, api.Digest{}}, {64, api.Digest{}}}, api.OK}} {
		if l, e := a.Want(x.h); len(l) > 0 || e != x.e {
			t.Error("P42.5:", i, l, e)
		}
	}
	for range 61 {
		if _, e := a.Make(edition(0)); e != api.OK {
			t.Fatal(e)
		}
	}
	a.Make(edition(0))
	if _, e := a.Make(edition(0)); e != api.ErrArg || a.Heads()[0].Count != 64 {
		t.Error("P42.2: a long chain:", e, a.Heads()[0].Count)
	}
	var none *Archive
	_, e := none.Make(api.Event{})
	_, e2 := none.Want(nil)
	_, e3 := none.Take(nil)
	if e != api.ErrArg || e2 != e || e3 != e || none.Heads() != nil || none.Events() != nil || none.Clock() != 0 || none.Copy() != nil {
		t.Error("a nil archive")
	}
}

func TestCheck(t *testing.T) {
	a := newArchive(t, 3)
	for i := range 9 {
		a.Make(edition(i % 2))
	}
	for by := range 3 {
		l := slices.DeleteFunc(a.Events(), func(e api.Event) bool { return e.By != by })
		h := a.Heads()[by]
		if e := Check(l, h, by); e != api.OK {
			t.Error("P42.6, P42.9:", by, e)
		}
		h.Count++
		if e := Check(l, h, by); e != api.ErrSum {
			t.Error("P42.6:", e)
		}
	}
	l := slices.DeleteFunc(a.Events(), func(e api.Event) bool { return e.By != 0 })
	h := a.Heads()[0]
	for i, change := range []func(l []api.Event) []api.Event{func(l []api.Event) []api.Event { return l[1:] }, func(l []api.Event) []api.Event { slices.Reverse(l); return l }, func(l []api.Event) []api.Event { l[1].By = 1; return l }, func(l []api.Event) []api.Event { l[1].Tick = l[0].Tick; return l }, func(l []api.Event) []api.Event { l[0].N = 5; return l }, func(l []api.Event) []api.Event { l[1].Seq = 0; return l }} {
		if e := Check(change(event.Sort(l)), h, 0); e != api.ErrArg {
			t.Error("P42.6, P42.9:", i, e)
		}
	}
	for i, change := range []func(l []api.Event) []api.Event{func(l []api.Event) []api.Event { return l[:len(l)-1] }, func(l []api.Event) []api.Event { l[len(l)-1].Tick++; return l }, func(l []api.Event) []api.Event { return nil }} {
		if e := Check(change(event.Sort(l)), h, 0); e != api.ErrSum {
			t.Error("P42.6, P42.9:", i, e)
		}
	}
	if Check(nil, Head{}, 5) != api.OK || Check(nil, Head{}, 6) != api.ErrArg || Check(nil, Head{}, -1) != api.ErrArg {
		t.Error("P42.6")
	}
}

func TestBytes(t *testing.T) {
	l := []api.Event{edition(1), {Kind: api.EvHold, N: 4}}
	b := Encode(l)
	if !slices.Equal(b, wire.Strings([]string{string(event.Encode(l[0])), string(event.Encode(l[1]))})) {
		t.Error("P42.7:", b)
	}
	if x, e := Decode(b); !same(x, l) || e != api.OK {
		t.Error("P42.7:", x, e)
	}
	one := string(event.Encode(l[0]))
	for i, x := range []struct {
		b []byte
		e api.Errno
	}{{nil, api.ErrMore}, {b[:len(b)-1], api.ErrMore}, {append(slices.Clone(b), 0), api.ErrForm}, {wire.Strings([]string{one + "x"}), api.ErrForm}, {wire.Strings([]string{""}), api.ErrForm}, {wire.Strings([]string{one[1:]}), api.ErrForm}, {[]byte{0}, api.ErrForm}, {wire.Strings(nil), api.OK}} {
		if l, e := Decode(x.b); len(l) > 0 || e != x.e {
			t.Error("P42.7:", i, e)
		}
	}
}

func TestMerged(t *testing.T) {
	r := rand.New(rand.NewSource(1))
	for range 200 {
		all := newArchive(t, 4)
		var parts [2]*Archive
		for i := range parts {
			parts[i] = newArchive(t, 4)
		}
		for range r.Intn(25) {
			var refs []api.Name
			if l := all.Events(); len(l) > 0 && r.Intn(2) == 0 {
				refs = append(refs, event.Name(l[r.Intn(len(l))]))
			}
			by := r.Intn(4)
			if len(refs) > 0 && refs[0].By == by {
				refs = nil
			}
			e, err := all.Make(edition(by, refs...))
			if err != api.OK {
				t.Fatal(err)
			}
			for _, p := range parts {
				if r.Intn(2) == 0 {
					p.Take([]api.Event{e})
				}
			}
		}
		before := parts[0].Copy()
		for i := range parts {
			l, e := parts[1-i].Want(parts[i].Heads())
			if _, e2 := parts[i].Take(l); e != api.OK || e2 != api.OK {
				t.Fatal("P42.8:", e, e2)
			}
		}
		if !same(parts[0].Events(), parts[1].Events()) || !slices.Equal(parts[0].Heads(), parts[1].Heads()) {
			t.Fatal("P42.8")
		}
		if l, e := parts[0].Want(parts[1].Heads()); len(l) > 0 || e != api.OK {
			t.Fatal("P42.8:", l, e)
		}
		for _, e := range before.Events() {
			if !slices.ContainsFunc(parts[0].Events(), func(x api.Event) bool { return event.Same(x, e) }) {
				t.Fatal("P42.10:", e)
			}
		}
		events := parts[0].Events()
		for i, e := range events {
			for _, n := range e.Refs {
				if event.Find(events[:i], n) < 0 {
					t.Fatal("P42.12:", e)
				}
			}
		}
		if n, e := event.Closed(events); n != len(events) || e != api.OK {
			t.Fatal("P42.12:", n, e)
		}
		checkFork(t, parts[0])
	}
}

func checkFork(t *testing.T, a *Archive) {
	for _, e := range a.Events() {
		e.Tick += 1000
		c := a.Copy()
		if n, err := c.Take([]api.Event{e}); n != 0 || err != api.ErrTwice {
			t.Fatal("P42.11:", n, err)
		}
		h := a.Heads()
		h[e.By] = Head{e.Seq + 1, chained(a.sums[e.By][e.Seq], e)}
		if _, err := a.Want(h); err != api.ErrSum {
			t.Fatal("P42.11:", err)
		}
	}
}
