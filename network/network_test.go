package network

import (
	"math"
	"math/rand"
	"reflect"
	"slices"
	"testing"

	"passim/api"
	"passim/event"
)

var edition = api.Event{Kind: api.EvEdition}

func network(t *testing.T, hosts int) *Network {
	n, e := New(hosts, 5)
	if e != api.OK {
		t.Fatal("P44.1:", e)
	}
	return n
}

func TestExample(t *testing.T) {
	n := network(t, 3)
	for i, x := range []struct {
		a   Act
		e   api.Errno
		way int
	}{{Act{Kind: Say, Event: edition}, api.OK, 0}, {Act{Kind: Deliver}, api.ErrNone, 0}, {Act{Kind: Send}, api.OK, 2}, {Act{Kind: Lose}, api.OK, 1}, {Act{Kind: Forge}, api.OK, 1}, {Act{Kind: Deliver}, api.ErrSum, 0}} {
		if e := n.Do(x.a); e != x.e || n.Way() != x.way {
			t.Error("P44.2:", i, e, n.Way())
		}
	}
	if m := n.Made(); !slices.Equal(m, []api.Name{{}}) {
		t.Error("P44.4:", m)
	}
	one := func() {
		for i := range 3 {
			if l, e := n.Events(i); len(l) != 1 || e != api.OK {
				t.Error("P44.5:", i, l, e)
			}
		}
	}
	if e := n.Calm(8); e != api.OK || n.Way() != 0 {
		t.Error("P44.3:", e)
	}
	one()
	n.Do(Act{Kind: Trip, Host: 1})
	if e := n.Do(Act{Kind: Say, Host: 1, Event: edition}); e != api.ErrDown || len(n.Made()) != 1 {
		t.Error("P44.2:", e)
	}
	_, e := n.Events(1)
	_, e2 := n.History(1)
	if e != api.ErrDown || e2 != e {
		t.Error("P44.4:", e, e2)
	}
	if e := n.Calm(8); e != api.OK {
		t.Error("P44.3:", e)
	}
	one()
}

func TestErrors(t *testing.T) {
	for _, hosts := range []int{0, 6, -1} {
		if n, e := New(hosts, 5); n != nil || e != api.ErrArg {
			t.Error("P44.1:", hosts, e)
		}
	}
	n := network(t, 2)
	for kind := -1; kind <= Acts; kind++ {
		want := api.ErrArg
		if kind >= Deliver && kind <= Forge {
			want = api.ErrNone
		}
		for _, h := range []int{-1, 2, math.MaxInt} {
			if e := n.Do(Act{Kind: kind, Host: h}); e != want {
				t.Error("P44.2:", kind, h, e)
			}
		}
	}
	for _, most := range []int{0, 65, -1} {
		if e := n.Calm(most); e != api.ErrArg {
			t.Error("P44.3:", most, e)
		}
	}
	for _, h := range []int{-1, 2} {
		_, e := n.Events(h)
		_, e2 := n.History(h)
		if e != api.ErrArg || e2 != e {
			t.Error("P44.4:", h, e, e2)
		}
	}
	n.Do(Act{Kind: Say, Event: edition})
	if e := n.Calm(1); e != api.ErrLimit {
		t.Error("P44.3:", e)
	}
	var none *Network
	_, e := none.Events(0)
	_, e2 := none.History(0)
	if none.Do(Act{}) != api.ErrArg || none.Calm(5) != api.ErrArg || e != api.ErrArg || e2 != e || none.Way() != 0 || none.Made() != nil {
		t.Error("a nil network")
	}
}

func TestActs(t *testing.T) {
	n := network(t, 4)
	n.Do(Act{Kind: Say, Event: edition})
	n.Do(Act{Kind: Send})
	if e := n.Do(Act{Kind: Repeat, N: -1}); e != api.OK || n.Way() != 3 {
		t.Error("P44.2: Repeat:", e)
	}
	if l, _ := n.Events(3); len(l) != 1 {
		t.Error("P44.2: the last packet goes to the host 3:", l)
	}
	before := slices.Clone(n.way[1].packet.Bytes)
	n.Do(Act{Kind: Forge, N: 4, Picks: []int{-1, 7}})
	n.Do(Act{Kind: Forge, N: 1, Picks: []int{3}})
	before[len(before)-1]++
	if !slices.Equal(n.way[1].packet.Bytes, before) {
		t.Error("P44.2: Forge")
	}
	for range 100 {
		n.Do(Act{Kind: Send, Host: 1})
		n.Do(Act{Kind: Crash, Host: 2})
		n.Do(Act{Kind: Send, Host: 2})
	}
	if n.Way() != 64 {
		t.Error("P44.2: too many packets:", n.Way())
	}
	if e := n.Do(Act{Kind: Deliver, N: 1}); e != api.ErrSum || n.Way() != 63 {
		t.Error("P44.2:", e)
	}
	n.Do(Act{Kind: Trip, Host: 2, N: 1})
	if e := n.Do(Act{Kind: Say, Host: 2, Event: edition}); e != api.ErrDown {
		t.Error("P44.2: Trip:", e)
	}
	if e := n.Do(Act{Kind: Crash, Host: 2, Picks: []int{99}}); e != api.OK {
		t.Error("P44.2: Crash:", e)
	}
	if l, e := n.Events(2); len(l) != 1 || e != api.OK {
		t.Error("P44.2: it was written, but not flushed:", l, e)
	}
}

func TestScripts(t *testing.T) {
	r := rand.New(rand.NewSource(1))
	for range 60 {
		n := network(t, 2+r.Intn(4))
		for range 80 {
			a := Act{Kind: r.Intn(Acts), Host: r.Intn(len(n.hosts)), N: r.Intn(99) - 9, Event: edition, Picks: []int{r.Intn(99), r.Intn(70)}}
			if a.Kind == Trip {
				a.N = r.Intn(12)
			}
			n.Do(a)
			checkSource(t, n)
		}
		if e := n.Calm(8); e != api.OK {
			t.Fatal("P44.6:", e)
		}
		first, _ := n.Events(0)
		h, _ := n.History(0)
		for i := range n.hosts {
			l, _ := n.Events(i)
			x, e := n.History(i)
			if !slices.EqualFunc(l, first, event.Same) || !reflect.DeepEqual(x, h) || e != api.OK {
				t.Fatal("P44.5:", i)
			}
		}
		for _, name := range n.Made() {
			if event.Find(first, name) < 0 {
				t.Fatal("P44.5:", name)
			}
		}
	}
}

// checkSource looks for each event at the host that made it.
func checkSource(t *testing.T, n *Network) {
	for i := range n.hosts {
		l, _ := n.Events(i)
		for _, e := range l {
			if own, err := n.Events(e.By); err == api.OK && event.Find(own, event.Name(e)) < 0 {
				t.Fatal("P44.7:", e)
			}
		}
	}
}

func TestLate(t *testing.T) {
	r := rand.New(rand.NewSource(2))
	for range 30 {
		a, b := network(t, 3), network(t, 3)
		for range 25 {
			i := r.Intn(3)
			a.Do(Act{Kind: Say, Host: i, Event: edition})
			b.Do(Act{Kind: Say, Host: i, Event: edition})
			for _, kind := range []int{Send, Repeat, Deliver, Lose} {
				if r.Intn(2) == 0 {
					b.Do(Act{Kind: kind, Host: r.Intn(3), N: r.Intn(9)})
				}
			}
		}
		a.Calm(8)
		b.Calm(8)
		if !slices.Equal(a.Made(), b.Made()) {
			t.Fatal("P44.8: Made")
		}
		for i := range 3 {
			l, _ := b.Events(i)
			for _, name := range a.Made() {
				if event.Find(l, name) < 0 || len(l) != len(a.Made()) {
					t.Fatal("P44.8:", i, name)
				}
			}
		}
	}
}
