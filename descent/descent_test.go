package descent

import (
	"math/rand"
	"slices"
	"testing"

	"passim/api"
	"passim/edit"
	"passim/work"
)

func id(by, seq, k int) api.ID { return api.ID{By: by, Seq: seq, K: k} }

func link(from, to api.ID) api.Link { return api.Link{From: from, To: to} }

var (
	a, b, c = id(0, 0, 0), id(0, 1, 0), id(0, 2, 0)
	name    = api.Name{By: 1, Seq: 3}
)

func example() api.Work {
	return api.Work{List: []api.Volume{{List: []api.Article{{Title: "Odes", List: []api.Passage{
		{ID: a, Text: "the king @", Refs: []api.ID{b}}, {ID: b, Form: api.Note, Text: "a lyre"}, {ID: c, Form: api.Plate, Text: "rome"},
	}}}}}}
}

func TestOf(t *testing.T) {
	x, y := id(1, 3, 0), id(1, 3, 1)
	two := example()
	two.List[0].List[0].List[1].Form = api.Para
	for i, v := range []struct {
		w    api.Work
		o    api.Op
		want []api.Link
		e    api.Errno
	}{
		{example(), api.Op{Kind: api.OpSplit, At: a, N: 1}, []api.Link{link(a, x), link(a, y), link(b, b), link(c, c)}, api.OK},
		{example(), api.Op{Kind: api.OpDelete, At: c}, []api.Link{link(a, a), link(b, b)}, api.OK},
		{example(), api.Op{Kind: api.OpMerge, At: a}, nil, api.ErrType},
		{two, api.Op{Kind: api.OpMerge, At: a}, []api.Link{link(a, x), link(b, x), link(c, c)}, api.OK},
		{example(), api.Op{Kind: api.OpRewrite, At: a, N: 2, Texts: []string{"p", "q"}, Pairs: [][2]int{{0, 0}, {0, 1}}}, []api.Link{link(a, x), link(a, y), link(c, c)}, api.OK},
		{example(), api.Op{Kind: api.OpInsert, Text: "x"}, []api.Link{link(a, a), link(b, b), link(c, c)}, api.OK},
		{example(), api.Op{Kind: api.OpVolume}, []api.Link{link(a, a), link(b, b), link(c, c)}, api.OK},
		{api.Work{}, api.Op{Kind: -1}, nil, api.ErrArg},
	} {
		if l, e := Of(v.w, v.o, name); !slices.Equal(l, v.want) || e != v.e {
			t.Error("P9.2:", i, l, e)
		}
	}
	l, _ := Of(example(), api.Op{Kind: api.OpDelete, At: c}, name)
	if lost := Lost(l, example()); !slices.Equal(lost, []api.ID{c}) {
		t.Error("P9.5:", lost)
	}
	if l := Still(example()); !slices.Equal(l, []api.Link{link(a, a), link(b, b), link(c, c)}) {
		t.Error("P9.2:", l)
	}
	twice := example()
	twice.List[0].List[0].List[2].ID = a
	if lost := Lost([]api.Link{link(b, c)}, twice); !slices.Equal(lost, []api.ID{a}) {
		t.Error("P9.5:", lost)
	}
}

func TestSets(t *testing.T) {
	far := id(-5, 1<<40, 0)
	l := []api.Link{link(c, a), link(a, b), link(a, a), link(a, b), link(far, a)}
	if s := Sort(l); !slices.Equal(s, []api.Link{link(far, a), link(a, a), link(a, b), link(c, a)}) || l[0] != link(c, a) {
		t.Error("P9.1:", s)
	}
	if !Same(l, Sort(l)) || Same(l, l[:3]) || !Same(nil, []api.Link{}) {
		t.Error("P9.1: Same")
	}
	if d := Down(l, a); !slices.Equal(d, []api.ID{a, b}) {
		t.Error("P9.4:", d)
	}
	if u := Up(l, a); !slices.Equal(u, []api.ID{far, a, c}) {
		t.Error("P9.4:", u)
	}
	if m := Image(l, []api.ID{c, a, id(9, 9, 9)}); !slices.Equal(m, []api.ID{a, b}) {
		t.Error("P9.4:", m)
	}
}

func TestCompose(t *testing.T) {
	x, y := id(1, 3, 0), id(1, 3, 1)
	l, m := []api.Link{link(b, y), link(a, x), link(a, y), link(a, x), link(c, c)}, []api.Link{link(y, b), link(x, b), link(x, a), link(b, b)}
	if n := Compose(l, m); !slices.Equal(n, []api.Link{link(a, a), link(a, b), link(b, b)}) || l[0] != link(b, y) {
		t.Error("P9.3:", n)
	}
	if n := Compose(l, nil); len(n) > 0 {
		t.Error("P9.3:", n)
	}
}

func TestLine(t *testing.T) {
	p, q, end := id(1, 3, 0), id(1, 3, 1), id(2, 0, 0)
	steps := [][]api.Link{{link(a, q), link(a, p)}, {link(p, end), link(q, end)}}
	if l, ok := Line(steps, a, end); !slices.Equal(l, []api.ID{a, p, end}) || !ok {
		t.Error("P9.6:", l, ok)
	}
	for i, line := range [][]api.ID{nil, {a}, {a, p}, {a, b, end}, {a, p, end, end}, {p, p, end}, {a, p, q}} {
		if e := Check(steps, a, end, line); e != api.ErrProof {
			t.Error("P9.7:", i, e)
		}
	}
	if e := Check(steps, a, end, []api.ID{a, q, end}); e != api.OK {
		t.Error("P9.7:", e)
	}
	if l, ok := Line(steps, p, end); len(l) != 0 || ok {
		t.Error("P9.6:", l, ok)
	}
	if l, ok := Line(nil, a, a); !slices.Equal(l, []api.ID{a}) || !ok || Check(nil, a, a, l) != api.OK {
		t.Error("P9.6: no steps:", l, ok)
	}
	if l, ok := Line(nil, a, b); len(l) != 0 || ok || Check(nil, a, b, []api.ID{a}) != api.ErrProof {
		t.Error("P9.6: no steps:", l, ok)
	}
}

func random(r *rand.Rand) []api.Link {
	var l []api.Link
	for range r.Intn(9) {
		l = append(l, link(id(0, r.Intn(4), 0), id(0, r.Intn(4), 0)))
	}
	return l
}

func TestComposed(t *testing.T) {
	r := rand.New(rand.NewSource(1))
	for range 500 {
		l, m, n := random(r), random(r), random(r)
		lm := Compose(l, m)
		if !slices.Equal(Compose(lm, n), Compose(l, Compose(m, n))) {
			t.Fatal("P9.8: associative")
		}
		ids := []api.ID{id(0, 1, 0), id(0, 3, 0)}
		if !slices.Equal(Image(lm, ids), Image(m, Image(l, ids))) {
			t.Fatal("P9.8: Image")
		}
		for i := range 4 {
			for k := range 4 {
				x, y := id(0, i, 0), id(0, k, 0)
				if slices.Contains(Down(l, x), y) != slices.Contains(Up(l, y), x) {
					t.Fatal("P9.8: Down and Up")
				}
				line, ok := Line([][]api.Link{l, m, n}, x, y)
				if ok != slices.Contains(Compose(lm, n), link(x, y)) {
					t.Fatal("P9.9:", l, m, n, x, y)
				}
				if ok && Check([][]api.Link{l, m, n}, x, y, line) != api.OK {
					t.Fatal("P9.9: refused:", line)
				}
				checkFirst(t, [][]api.Link{l, m, n}, line, x, y)
			}
		}
	}
	w := example()
	l := []api.Link{link(a, b), link(b, id(9, 9, 9)), link(id(9, 9, 9), c)}
	if !slices.Equal(Compose(Still(w), l), []api.Link{link(a, b), link(b, id(9, 9, 9))}) || !slices.Equal(Compose(l, Still(w)), []api.Link{link(a, b), link(id(9, 9, 9), c)}) {
		t.Error("P9.8: Still")
	}
}

func checkFirst(t *testing.T, steps [][]api.Link, line []api.ID, x, y api.ID) {
	for i := range 4 {
		for k := range 4 {
			other := []api.ID{x, id(0, i, 0), id(0, k, 0), y}
			before := len(line) == 0 || i < line[1].Seq || i == line[1].Seq && k < line[2].Seq
			if before && Check(steps, x, y, other) == api.OK {
				t.Fatal("P9.9: it is not the first one:", line, other)
			}
		}
	}
}

func TestWhole(t *testing.T) {
	two := example()
	two.List[0].List[0].List[1].Form = api.Para
	for _, o := range []api.Op{{Kind: api.OpSplit, At: a, N: 1}, {Kind: api.OpDelete, At: b}, {Kind: api.OpMerge, At: a}, {Kind: api.OpMove, At: c}, {Kind: api.OpSwap, At: a, To: c}, {Kind: api.OpInsert, Text: "x"},
		{Kind: api.OpRewrite, At: a, N: 2, Texts: []string{"x", "y", "z"}, Pairs: [][2]int{{0, 2}}}} {
		next, e := edit.Do(two, o, name)
		l, _ := Of(two, o, name)
		if e != api.OK {
			t.Fatal(o.Kind, e)
		}
		for _, x := range l {
			_, from := work.Find(two, x.From)
			_, to := work.Find(next, x.To)
			if !from || !to {
				t.Error("P9.10:", o.Kind, x)
			}
		}
		for _, p := range work.All(next) {
			if len(Up(l, p.ID)) == 0 && o.Kind != api.OpInsert && o.Kind != api.OpRewrite {
				t.Error("P9.10:", o.Kind, p.ID)
			}
		}
		if d := Down(l, c); !slices.Equal(d, []api.ID{c}) {
			t.Error("P9.10:", o.Kind, d)
		}
	}
}
