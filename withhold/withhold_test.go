package withhold

import (
	"math/rand"
	"reflect"
	"slices"
	"testing"

	"passim/api"
	"passim/descent"
	"passim/history"
	"passim/vocabulary"
	"passim/work"
)

func id(seq, k int) api.ID { return api.ID{Seq: seq, K: k} }

func op(o api.Op) api.Event { return api.Event{Kind: api.EvEdit, Op: o} }

func insert(i, form int, text string, refs ...api.ID) api.Event {
	return op(api.Op{Kind: api.OpInsert, Spot: api.Spot{Index: i}, Form: form, Text: text, Refs: refs})
}

func hold(id api.ID, n int) api.Event { return api.Event{Kind: api.EvHold, ID: id, N: n} }

func free(id api.ID, n int) api.Event { return api.Event{Kind: api.EvFree, ID: id, N: n} }

var edition1 = api.Event{Kind: api.EvEdition}

func play(t *testing.T, l ...api.Event) *history.History {
	for i := range l {
		l[i].Seq, l[i].Tick = i, i+1
	}
	h, n, e := history.Play(l)
	if e != api.OK {
		t.Fatal(n, e)
	}
	return h
}

var a, b, c, d = id(2, 0), id(3, 0), id(4, 0), id(5, 0)

func example(t *testing.T, rest ...api.Event) *history.History {
	return play(t, append([]api.Event{op(api.Op{Kind: api.OpVolume}), op(api.Op{Kind: api.OpArticle, Text: "x"}), insert(0, api.Para, "the king @", id(4, 0)), insert(1, api.Note, "a lyre"), insert(2, api.Para, "rome"), insert(3, api.Plate, "ode"), edition1}, rest...)...)
}

func TestExample(t *testing.T) {
	h := example(t, hold(c, 3))
	for day, want := range map[int][]api.ID{0: nil, 2: nil, 3: {c}, api.MaxTick: {c}} {
		if l, e := Held(h, 0, day); !slices.Equal(l, want) || e != api.OK {
			t.Error("P40.1:", day, l, e)
		}
	}
	w, links, e := Public(h, 0, 3)
	if e != api.OK || !slices.Equal(links, []api.Link{{From: a, To: id(0, 0)}, {From: b, To: id(0, 1)}, {From: d, To: id(0, 2)}}) {
		t.Error("P40.2:", links, e)
	}
	want := []api.Passage{{ID: id(0, 0), Text: "the king @", Refs: []api.ID{{By: -1}}}, {ID: id(0, 1), Form: api.Note, Text: "a lyre"}, {ID: id(0, 2), Form: api.Plate, Text: "ode"}}
	if !reflect.DeepEqual(work.All(w), want) {
		t.Error("P40.2:", work.All(w))
	}
	w, links, _ = Public(example(t, hold(a, 3)), 0, 3)
	if !slices.Equal(links, []api.Link{{From: c, To: id(0, 0)}, {From: d, To: id(0, 1)}}) || work.Size(w) != [3]int{1, 1, 2} {
		t.Error("P40.2:", links)
	}
	if w, _, _ := Public(example(t), 0, 3); work.All(w)[0].Refs[0] != id(0, 2) {
		t.Error("P40.2: references:", w)
	}
	for at, want := range map[api.ID]int{c: 3, d: 0} {
		if n, ok, e := Since(h, at, 0); n != want || ok != (want > 0) || e != api.OK {
			t.Error("P40.6:", at, n, ok, e)
		}
	}
	h = example(t, hold(c, 3), free(c, 5))
	for day, n := range map[int]int{9: 0, 4: 1, 5: 0} {
		if l, _ := Held(h, 0, day); len(l) != n {
			t.Error("P40.1:", day, l)
		}
	}
}

func TestOrders(t *testing.T) {
	for i, x := range []struct {
		l    []api.Event
		days map[int]bool
		from int
	}{
		{[]api.Event{hold(c, 5), free(c, 3)}, map[int]bool{4: false, 5: false, 9: false}, 0},
		{[]api.Event{free(c, 3), hold(c, 5)}, map[int]bool{4: false, 5: true}, 5},
		{[]api.Event{hold(c, 5), free(c, 7), hold(c, 2)}, map[int]bool{1: false, 2: true, 6: true, 7: true}, 2},
		{[]api.Event{hold(c, 5), free(c, 7), hold(id(9, 9), 1)}, map[int]bool{4: false, 6: true, 7: false}, 5},
		{[]api.Event{hold(c, 0)}, map[int]bool{0: true}, 0},
	} {
		h := example(t, x.l...)
		for day, want := range x.days {
			if l, _ := Held(h, 0, day); slices.Contains(l, c) != want {
				t.Error("P40.1:", i, day, l)
			}
		}
		if n, ok, _ := Since(h, c, 0); n != x.from || ok != (i > 0) {
			t.Error("P40.6:", i, n, ok)
		}
	}
	h := example(t, op(api.Op{Kind: api.OpMerge, At: c}), op(api.Op{Kind: api.OpRewrite, At: c, N: 1, Texts: []string{"the rome", "x y"}, Pairs: [][2]int{{0, 0}, {0, 1}}}), op(api.Op{Kind: api.OpSplit, At: id(8, 0), N: 1}), edition1, hold(id(9, 1), 4))
	if l, _ := Held(h, 1, 4); !slices.Equal(l, []api.ID{id(9, 1)}) {
		t.Error("P40.9: not what descends from the same passage:", l)
	}
	if l, _ := Held(h, 0, 4); !slices.Equal(l, []api.ID{c}) {
		t.Error("P40.9:", l)
	}
}

func TestErrors(t *testing.T) {
	h := example(t)
	var none *history.History
	for i, x := range []struct {
		h      *history.History
		k, day int
		e      api.Errno
	}{{none, 0, 0, api.ErrNone}, {h, 1, -1, api.ErrNone}, {h, -1, 0, api.ErrNone}, {h, 0, -1, api.ErrRange}, {h, 0, api.MaxTick + 1, api.ErrRange}} {
		l, e := Held(x.h, x.k, x.day)
		w, links, e2 := Public(x.h, x.k, x.day)
		ok, e3 := Twin(x.h, h, x.k, x.day)
		ok2, e4 := Twin(h, x.h, x.k, x.day)
		if e != x.e || e2 != e || e3 != e || e4 != e || len(l)+len(links)+len(w.List) > 0 || ok || ok2 {
			t.Error("P40.1, P40.2, P40.5:", i, e, e2, e3, e4)
		}
	}
	for i, x := range []struct {
		id api.ID
		k  int
	}{{c, 1}, {id(9, 9), 0}, {api.ID{By: -1}, 0}} {
		if n, ok, e := Since(h, x.id, x.k); n != 0 || ok || e != api.ErrNone {
			t.Error("P40.6:", i, e)
		}
	}
}

func TestArticles(t *testing.T) {
	h := play(t, op(api.Op{Kind: api.OpVolume}), op(api.Op{Kind: api.OpArticle, Text: "x"}), op(api.Op{Kind: api.OpArticle, Text: "y"}), op(api.Op{Kind: api.OpVolume}), op(api.Op{Kind: api.OpArticle, Spot: api.Spot{Volume: 1}, Text: "z"}), insert(0, api.Para, "a"), insert(1, api.Note, "b"),
		op(api.Op{Kind: api.OpInsert, Spot: api.Spot{Volume: 1}, Text: "c"}), edition1, hold(id(5, 0), 1), hold(id(7, 0), 2))
	w, _, _ := Public(h, 0, 1)
	if work.Size(w) != [3]int{2, 2, 1} || w.List[0].List[0].Title != "y" {
		t.Error("P40.2:", w)
	}
	if w, _, _ := Public(h, 0, 2); work.Size(w) != [3]int{2, 1, 0} {
		t.Error("P40.2:", w)
	}
}

func TestPostsAndTerms(t *testing.T) {
	links := []api.Link{{From: a, To: id(0, 0)}, {From: a, To: id(0, 5)}, {From: c, To: id(0, 1)}}
	posts := []api.Post{{ID: c, Path: []string{"king"}, Main: true}, {ID: b, Path: []string{"x"}}, {ID: a, Path: []string{"y"}}}
	l := Posts(links, posts)
	if want := []api.Post{{ID: id(0, 1), Path: []string{"king"}, Main: true}, {ID: id(0, 0), Path: []string{"y"}}}; !reflect.DeepEqual(l, want) {
		t.Error("P40.3:", l)
	}
	terms := []api.Term{{Name: "anna", See: "anne"}, {Name: "anne", Broader: []string{"ruler", "woman"}}, {Name: "king", Broader: []string{"ruler"}}, {Name: "ode"}, {Name: "rome", Lang: 2}, {Name: "ruler"}, {Name: "woman"}}
	w := api.Work{List: []api.Volume{{List: []api.Article{{List: []api.Passage{{Text: "Anna of rome"}}}}}}}
	got := Terms(w, terms, []api.Post{{Path: []string{"zz", "ruler"}}})
	want := []api.Term{{Name: "anna", See: "anne"}, {Name: "anne", Broader: []string{"ruler"}}, {Name: "ruler"}}
	if !vocabulary.Same(got, want) || terms[1].Broader[1] != "woman" {
		t.Error("P40.4:", got)
	}
	if l := Terms(w, append(terms, api.Term{}), nil); len(l) > 0 {
		t.Error("P40.4:", l)
	}
}

func TestProperties(t *testing.T) {
	r := rand.New(rand.NewSource(1))
	for range 40 {
		secret := func(text string, moves []api.Event) *history.History {
			return play(t, slices.Concat([]api.Event{op(api.Op{Kind: api.OpVolume}), op(api.Op{Kind: api.OpArticle, Text: "x"}), insert(0, api.Para, text), insert(1, api.Note, "n"), insert(2, api.Para, "b @", id(2, 0))}, moves)...)
		}
		var moves []api.Event
		for range 20 {
			moves = append(moves, []api.Event{edition1, hold(id(2, 0), 3), insert(0, api.Para, "k l"), op(api.Op{Kind: api.OpMove, At: id(2, 0)}), op(api.Op{Kind: api.OpSplit, At: id(4+r.Intn(20), 0), N: 1}), op(api.Op{Kind: api.OpDelete, At: id(4+r.Intn(20), 0)}), hold(id(4+r.Intn(20), 0), r.Intn(9))}[r.Intn(7)])
		}
		x, y := secret("one secret", slices.Clone(moves)), secret("another", slices.Clone(moves))
		for k := range x.Editions() {
			for _, day := range []int{0, 2, 3, 5, 9} {
				checkPublic(t, x, k, day)
				held, _ := Held(x, k, day)
				if twin, e := Twin(x, y, k, day); slices.Contains(held, id(2, 0)) && !twin || e != api.OK {
					t.Fatal("P40.8:", k, day, e)
				}
			}
		}
	}
}

func checkPublic(t *testing.T, h *history.History, k, day int) {
	w, links, _ := Public(h, k, day)
	edition, _ := h.Edition(k)
	held, _ := Held(h, k, day)
	if e := work.Valid(w); e != api.OK {
		t.Fatal("P40.7:", e)
	}
	from := map[api.ID]api.ID{}
	for _, x := range links {
		from[x.To] = x.From
		if slices.Contains(held, x.From) {
			t.Fatal("P40.7:", x)
		}
	}
	var order []api.ID
	for _, p := range work.All(w) {
		s, _ := work.Find(edition, from[p.ID])
		q, _ := work.At(edition, s)
		if p.Text != q.Text || p.Form != q.Form || p.Lang != q.Lang {
			t.Fatal("P40.7:", p, q)
		}
		order = append(order, q.ID)
	}
	if !slices.Equal(work.Order(edition, order), order) || !slices.Equal(links, descent.Sort(links)) {
		t.Fatal("P40.7: the order")
	}
	for _, p := range work.All(edition) {
		since, ok, _ := Since(h, p.ID, k)
		if at, _ := Held(h, k, since); ok && !slices.Contains(at, p.ID) {
			t.Fatal("P40.10:", p.ID)
		}
		if slices.Contains(held, p.ID) && (!ok || since > day) {
			t.Fatal("P40.10:", p.ID, since, day)
		}
		for later := k; later < h.Editions(); later++ {
			links, _ := h.Links(k, later)
			next, _ := Held(h, later, day)
			for _, id := range descent.Down(links, p.ID) {
				if slices.Contains(archiveOf(h).ordered(day), p.ID) && !slices.Contains(next, id) {
					t.Fatal("P40.9:", p.ID, id)
				}
			}
		}
	}
}
