package transducer

import (
	"slices"
	"testing"

	"passim/api"
)

func TestArcs(t *testing.T) {
	many := Machine{States: 2, Final: []int{1}, Arcs: slices.Repeat([]Arc{{0, 1, "a", "b"}}, 16384)}
	if e := Valid(many); e != api.OK {
		t.Error("P5.1:", e)
	}
	copies := Machine{States: 1, Final: []int{0}, Arcs: []Arc{{0, 0, "b", "c"}}}
	if m, e := Compose(many, copies); len(m.Arcs) != 16384 || e != api.OK {
		t.Error("P5.7:", len(m.Arcs), e)
	}
	copies.Arcs = append(copies.Arcs, Arc{0, 0, "b", "d"})
	if _, e := Compose(many, copies); e != api.ErrLimit {
		t.Error("P5.7:", e)
	}
	if _, e := Union(many, Machine{States: 1}); e != api.ErrLimit {
		t.Error("P5.6:", e)
	}
	silent := Machine{States: 4096, Arcs: slices.Repeat([]Arc{{0, 1, "a", ""}}, 16384)}
	if m, e := Compose(silent, Machine{States: 1}); m.States != 1 || e != api.OK {
		t.Error("P5.7:", m.States, e)
	}
	silent.States, silent.Arcs = 2, silent.Arcs[:8193]
	if _, e := Compose(silent, Machine{States: 2}); e != api.ErrLimit {
		t.Error("P5.7: an arc for each state:", e)
	}
	quiet := Machine{States: 5, Arcs: slices.Repeat([]Arc{{0, 1, "", "a"}}, 4000)}
	if _, e := Compose(Machine{States: 5}, quiet); e != api.ErrLimit {
		t.Error("P5.7: arcs that read nothing:", e)
	}
}

func TestNothing(t *testing.T) {
	bad := Machine{}
	if ok, e := Accepts(bad, "", ""); ok || e != api.ErrArg {
		t.Error("P5.3:", ok, e)
	}
	fork := Machine{4, 0, []int{2, 3}, []Arc{{0, 1, "", "x"}, {0, 1, "", "y"}, {1, 2, "a", ""}, {1, 3, "a", "z"}}}
	if l, e := Apply(fork, "a"); !slices.Equal(l, []string{"x", "xz", "y", "yz"}) || e != api.OK {
		t.Error("P5.2:", l, e)
	}
	if s, ok, e := Functional(fork); s != "a" || ok || e != api.OK {
		t.Error("P5.8:", s, ok, e)
	}
	late := Machine{3, 0, []int{2}, []Arc{{0, 1, "a", "x"}, {1, 2, "", ""}, {1, 2, "", "y"}}}
	if s, ok, e := Functional(late); s != "a" || ok || e != api.OK {
		t.Error("P5.8:", s, ok, e)
	}
}
