package transducer

import (
	"math/rand"
	"reflect"
	"slices"
	"strings"
	"testing"

	"passim/api"
)

var example = Machine{2, 0, []int{1}, []Arc{{0, 0, "a", "a"}, {0, 1, "b", "b"}, {0, 1, "b", ""}}}

func with(m Machine, arcs ...Arc) Machine {
	m.Arcs = append(slices.Clone(m.Arcs), arcs...)
	return m
}

func same(a, b Machine) bool {
	return a.States == b.States && a.Start == b.Start && slices.Equal(a.Final, b.Final) && slices.Equal(a.Arcs, b.Arcs)
}

func TestValid(t *testing.T) {
	long := strings.Repeat("x", 25)
	for i, x := range []struct {
		m Machine
		e api.Errno
	}{{example, api.OK}, {Machine{}, api.ErrArg}, {Machine{States: -1}, api.ErrArg}, {Machine{States: 1}, api.OK}, {Machine{States: 1, Start: 1}, api.ErrArg}, {Machine{States: 1, Start: -1}, api.ErrArg},
		{Machine{States: 2, Final: []int{1, 0}}, api.ErrArg}, {Machine{States: 2, Final: []int{1, 1}}, api.ErrArg}, {Machine{States: 2, Final: []int{2}}, api.ErrArg}, {Machine{States: 4097}, api.ErrLimit}, {Machine{States: 4096}, api.OK},
		{Machine{Arcs: make([]Arc, 16385)}, api.ErrLimit}, {with(example, Arc{0, 2, "a", ""}), api.ErrArg}, {with(example, Arc{-1, 0, "a", ""}), api.ErrArg}, {with(example, Arc{0, 1, "ab", ""}), api.ErrArg},
		{with(example, Arc{0, 1, "a", long}), api.ErrArg}, {with(example, Arc{0, 1, "a", long[1:]}), api.OK}, {with(example, Arc{1, 1, "", ""}), api.ErrCycle}, {with(example, Arc{1, 0, "", "x"}), api.OK}, {with(example, Arc{1, 0, "", "x"}, Arc{0, 1, "", ""}), api.ErrCycle},
		{with(example, Arc{1, 1, "", ""}, Arc{1, 9, "", ""}), api.ErrArg}} {
		if e := Valid(x.m); e != x.e {
			t.Error("P5.1:", i, e)
		}
		if x.e == api.OK {
			continue
		}
		_, e1 := Apply(x.m, long[:1]+strings.Repeat("x", 256))
		_, e2 := Accepts(x.m, "", strings.Repeat("x", 5000))
		_, e3 := Trim(x.m)
		_, e4 := Inverse(x.m)
		_, e5 := Union(example, x.m)
		_, e6 := Compose(x.m, Machine{})
		_, _, e7 := Functional(x.m)
		if !slices.Equal([]api.Errno{e1, e2, e3, e4, e5, e6, e7}, slices.Repeat([]api.Errno{x.e}, 7)) {
			t.Error("P5.1: the others:", i, e1, e2, e3, e4, e5, e6, e7)
		}
	}
}

func TestExamples(t *testing.T) {
	if l, e := Apply(example, "aab"); !slices.Equal(l, []string{"aa", "aab"}) || e != api.OK {
		t.Error("P5.2:", l, e)
	}
	if l, e := Apply(example, "a"); len(l) != 0 || e != api.OK {
		t.Error("P5.2:", l, e)
	}
	for text, want := range map[[2]string]bool{{"ab", "a"}: true, {"ab", "b"}: false, {"ab", "ab"}: true, {"ab", "aba"}: false, {"", ""}: false} {
		if ok, e := Accepts(example, text[0], text[1]); ok != want || e != api.OK {
			t.Error("P5.3:", text, ok, e)
		}
	}
	if s, ok, e := Functional(example); s != "b" || ok || e != api.OK {
		t.Error("P5.8:", s, ok, e)
	}
	inverse, _ := Inverse(example)
	for _, text := range []string{"a", "ab"} {
		if l, e := Apply(inverse, text); !slices.Equal(l, []string{"ab"}) || e != api.OK {
			t.Error("P5.5:", text, l, e)
		}
	}
	twice, _ := Compose(example, example)
	if l, e := Apply(twice, "ab"); !slices.Equal(l, []string{"a", "ab"}) || e != api.OK {
		t.Error("P5.7:", l, e)
	}
}

func TestLimits(t *testing.T) {
	two := Machine{1, 0, []int{0}, []Arc{{0, 0, "a", "x"}, {0, 0, "a", "y"}}}
	if l, e := Apply(two, strings.Repeat("a", 6)); len(l) != 64 || e != api.OK {
		t.Error("P5.2:", len(l), e)
	}
	if l, e := Apply(two, strings.Repeat("a", 7)); len(l) != 0 || e != api.ErrLimit {
		t.Error("P5.2:", len(l), e)
	}
	dead := with(Machine{2, 0, []int{1}, nil}, Arc{0, 0, "a", "x"}, Arc{0, 0, "a", "y"}, Arc{0, 1, "b", ""})
	if l, e := Apply(dead, strings.Repeat("a", 256)); len(l) != 0 || e != api.OK {
		t.Error("P5.2: no run ends:", len(l), e)
	}
	if _, e := Apply(example, strings.Repeat("a", 257)); e != api.ErrLimit {
		t.Error("P5.2:", e)
	}
	if ok, e := Accepts(two, strings.Repeat("a", 256), strings.Repeat("xy", 128)); !ok || e != api.OK {
		t.Error("P5.3:", ok, e)
	}
	if _, e := Accepts(two, strings.Repeat("a", 257), ""); e != api.ErrLimit {
		t.Error("P5.3:", e)
	}
	if _, e := Accepts(two, "", strings.Repeat("a", 4097)); e != api.ErrLimit {
		t.Error("P5.3:", e)
	}
	big := Machine{States: 4096}
	if _, e := Union(big, Machine{States: 1}); e != api.ErrLimit {
		t.Error("P5.6:", e)
	}
	if _, e := Compose(big, Machine{States: 2}); e != api.ErrLimit {
		t.Error("P5.7:", e)
	}
	wide := Machine{States: 4096, Arcs: []Arc{{0, 1, "a", "xy"}}}
	if _, e := Inverse(wide); e != api.ErrLimit {
		t.Error("P5.5:", e)
	}
	if _, e := Inverse(with(example, Arc{1, 1, "a", ""})); e != api.ErrCycle {
		t.Error("P5.5:", e)
	}
	chain := Machine{States: 65, Final: []int{64}}
	for q := range 64 {
		chain.Arcs = append(chain.Arcs, Arc{q, q + 1, "a", ""})
	}
	if _, _, e := Functional(chain); e != api.ErrLimit {
		t.Error("P5.8:", e)
	}
	if _, ok, e := Functional(big); !ok || e != api.OK {
		t.Error("P5.8: only what is left counts:", ok, e)
	}
}

func TestShape(t *testing.T) {
	m := Machine{4, 3, []int{0, 2}, []Arc{{3, 2, "a", "xyz"}, {3, 1, "b", ""}, {2, 2, "c", ""}, {0, 2, "a", ""}}}
	if x, e := Trim(m); !same(x, Machine{2, 1, []int{0}, []Arc{{1, 0, "a", "xyz"}, {0, 0, "c", ""}}}) || e != api.OK {
		t.Error("P5.4:", x, e)
	}
	if x, e := Trim(Machine{4, 3, []int{0}, []Arc{{3, 3, "a", ""}}}); !same(x, Machine{States: 1}) || e != api.OK {
		t.Error("P5.4: no run:", x, e)
	}
	if x, e := Trim(Machine{4, 3, []int{3}, nil}); !same(x, Machine{1, 0, []int{0}, nil}) || e != api.OK {
		t.Error("P5.4: the empty run:", x, e)
	}
	if x, e := Inverse(Machine{2, 0, []int{1}, []Arc{{0, 1, "a", "xyz"}, {1, 1, "b", "u"}}}); !same(x, Machine{4, 0, []int{1}, []Arc{{0, 2, "x", "a"}, {2, 3, "y", ""}, {3, 1, "z", ""}, {1, 1, "u", "b"}}}) || e != api.OK {
		t.Error("P5.5:", x, e)
	}
	if x, e := Union(example, Machine{1, 0, []int{0}, []Arc{{0, 0, "c", ""}}}); !same(x, Machine{4, 0, []int{2, 3}, []Arc{{0, 1, "", ""}, {0, 3, "", ""}, {1, 1, "a", "a"}, {1, 2, "b", "b"}, {1, 2, "b", ""}, {3, 3, "c", ""}}}) || e != api.OK {
		t.Error("P5.6:", x, e)
	}
	a := Machine{2, 0, []int{1}, []Arc{{0, 1, "a", "xy"}, {1, 1, "b", ""}}}
	b := Machine{2, 0, []int{1}, []Arc{{0, 0, "x", "1"}, {0, 1, "y", "2"}, {1, 1, "", "3"}}}
	b.Arcs[2] = Arc{0, 1, "", "3"}
	// The states of the spread of a are 0, 1 and 2; the pair of p and q is 2 p + q.
	want := trim(Machine{6, 0, []int{3}, []Arc{{0, 4, "a", "1"}, {4, 3, "", "2"}, {2, 2, "b", ""}, {3, 3, "b", ""}, {0, 1, "", "3"}, {2, 3, "", "3"}, {4, 5, "", "3"}}})
	if x, e := Compose(a, b); !same(x, want) || e != api.OK {
		t.Error("P5.7:", x, e)
	}
}

func random(r *rand.Rand) Machine {
	m := Machine{States: 1 + r.Intn(4)}
	m.Start = r.Intn(m.States)
	for q := range m.States {
		if r.Intn(2) == 0 {
			m.Final = append(m.Final, q)
		}
	}
	for range r.Intn(6) {
		in, out := []string{"", "a", "b"}[r.Intn(3)], []string{"", "a", "b", "ab", "ba", "a"}[r.Intn(6)]
		m.Arcs = append(m.Arcs, Arc{r.Intn(m.States), r.Intn(m.States), in, out})
	}
	return m
}

func words(n int) []string {
	l := []string{""}
	for from, k := 0, 0; k < n; k++ {
		end := len(l)
		for _, w := range l[from:end] {
			l = append(l, w+"a", w+"b")
		}
		from = end
	}
	return l
}

// brute finds the results by following all runs.
func brute(m Machine, s string) map[string]bool {
	found := map[string]bool{}
	var run func(q, at int, out string)
	run = func(q, at int, out string) {
		if at == len(s) && slices.Contains(m.Final, q) {
			found[out] = true
		}
		for _, a := range m.Arcs {
			if a.From == q && strings.HasPrefix(s[at:], a.In) {
				run(a.To, at+len(a.In), out+a.Out)
			}
		}
	}
	run(m.Start, 0, "")
	return found
}

func set(t *testing.T, m Machine, s string) map[string]bool {
	l, e := Apply(m, s)
	if e == api.ErrLimit {
		return nil
	}
	if !slices.IsSorted(l) {
		t.Fatal("P5.2: order", l)
	}
	found := map[string]bool{}
	for _, x := range l {
		found[x] = true
	}
	return found
}

func TestRandom(t *testing.T) {
	r := rand.New(rand.NewSource(5))
	for n := 0; n < 600; {
		a, b := random(r), random(r)
		if Valid(a) != api.OK || Valid(b) != api.OK {
			continue
		}
		n++
		trimmed, _ := Trim(a)
		if again, _ := Trim(trimmed); !same(again, trimmed) {
			t.Fatal("P5.9:", a)
		}
		inverse, e := Inverse(a)
		union, _ := Union(a, b)
		composed, _ := Compose(a, b)
		for _, w := range words(3) {
			found := brute(a, w)
			if len(found) <= 64 && !reflect.DeepEqual(set(t, a, w), found) || !reflect.DeepEqual(set(t, a, w), set(t, trimmed, w)) {
				t.Fatal("P5.2, P5.9:", a, w, found)
			}
			for _, v := range words(3) {
				if ok, _ := Accepts(a, w, v); ok != found[v] {
					t.Fatal("P5.3:", a, w, v, ok)
				}
				if ok, _ := Accepts(inverse, v, w); e == api.OK && ok != found[v] {
					t.Fatal("P5.10:", a, w, v, ok)
				}
			}
			both, through := brute(b, w), map[string]bool{}
			for v := range found {
				both[v] = true
				for u := range brute(b, v) {
					through[u] = true
				}
			}
			if got := set(t, union, w); got != nil && !reflect.DeepEqual(got, both) {
				t.Fatal("P5.12:", a, b, w)
			}
			if got := set(t, composed, w); got != nil && !reflect.DeepEqual(got, through) {
				t.Fatal("P5.11:", a, b, w)
			}
		}
	}
}

func TestFunctional(t *testing.T) {
	r := rand.New(rand.NewSource(6))
	short := words(6)
	for n := 0; n < 1500; {
		a, b := random(r), random(r)
		if Valid(a) != api.OK || Valid(b) != api.OK {
			continue
		}
		n++
		s, ok, e := Functional(a)
		want, functional := "", true
		for _, w := range short {
			if functional && len(brute(a, w)) > 1 {
				want, functional = w, false
			}
		}
		if e != api.OK || ok && !functional || !ok && (len(s) <= 6 && s != want || len(s) > 6 && !functional) {
			t.Fatal("P5.8:", a, s, ok, e, want)
		}
		if _, other, _ := Functional(b); ok && other {
			if c, e := Compose(a, b); e == api.OK {
				if _, ok, _ := Functional(c); !ok {
					t.Fatal("P5.13:", a, b)
				}
			}
		}
	}
	// The delays of a pair of runs: one of them balances what the other one wrote before.
	late := Machine{4, 0, []int{3}, []Arc{{0, 1, "a", "xy"}, {0, 2, "a", "x"}, {1, 3, "b", "z"}, {2, 3, "b", "yz"}, {3, 3, "c", ""}}}
	if _, ok, _ := Functional(late); !ok {
		t.Error("P5.8: balanced")
	}
	if s, ok, _ := Functional(with(late, Arc{3, 3, "d", "1"}, Arc{3, 3, "d", "2"})); ok || s != "abd" {
		t.Error("P5.8:", s, ok)
	}
}
