package redo

import (
	"math/rand"
	"reflect"
	"slices"
	"testing"

	"passim/api"
	"passim/descent"
	"passim/hash"
	"passim/history"
	"passim/vocabulary"
	"passim/wire"
	"passim/work"
)

func id(seq, k int) api.ID { return api.ID{Seq: seq, K: k} }

func op(o api.Op) api.Event { return api.Event{Kind: api.EvEdit, Op: o} }

func insert(i int, text string) api.Event {
	return op(api.Op{Kind: api.OpInsert, Spot: api.Spot{Index: i}, Text: text})
}

func term(t api.Term) api.Event { return api.Event{Kind: api.EvTerm, Term: t} }

func play(t *testing.T, l ...api.Event) *history.History {
	for i := range l {
		l[i].Seq, l[i].Tick = i, i+1
	}
	h, n, e := history.Play(l)
	if e != api.OK {
		t.Fatal(n, e)
	}
	return h
}

var edition = api.Event{Kind: api.EvEdition}

func example(t *testing.T) *history.History {
	return play(t, op(api.Op{Kind: api.OpVolume}), op(api.Op{Kind: api.OpArticle, Text: "x"}), insert(0, "anna of rome"), insert(1, "the king"), insert(2, "a lyre"), term(api.Term{Name: "anna"}), term(api.Term{Name: "rome", Kind: 1}), edition,
		op(api.Op{Kind: api.OpSplit, At: id(3, 0), N: 1}), insert(4, "rome"), term(api.Term{Name: "lyre"}), edition)
}

func TestExample(t *testing.T) {
	h := example(t)
	ids := []api.ID{id(2, 0), id(3, 0), id(4, 0)}
	l, kept, e := Find(h, 0, 1, ids)
	terms, _ := h.Terms(1)
	basis, _ := Basis(api.Passage{Text: "anna of rome"}, terms)
	if want := []Item{{id(8, 0), Text, ""}, {id(8, 1), Text, ""}, {id(4, 0), Terms, "lyre"}, {id(9, 0), New, ""}}; !slices.Equal(l, want) || e != api.OK {
		t.Error("P28.2:", l, e)
	}
	if want := []Kept{{id(2, 0), id(2, 0), basis}}; !slices.Equal(kept, want) {
		t.Error("P28.2:", kept)
	}
	if e := Check(h, 0, 1, ids, l, kept); e != api.OK {
		t.Error("P28.3:", e)
	}
	if e := Check(h, 0, 1, ids, l[1:], kept); e != api.ErrProof {
		t.Error("P28.3:", e)
	}
	if e := Check(h, 0, 1, ids, l, nil); e != api.ErrProof {
		t.Error("P28.3:", e)
	}
	var none *history.History
	for i, x := range []struct {
		h    *history.History
		i, k int
		e    api.Errno
	}{{h, 1, 0, api.ErrRange}, {h, 2, 0, api.ErrNone}, {h, 0, 2, api.ErrNone}, {h, -1, 0, api.ErrNone}, {none, 0, 0, api.ErrNone}} {
		l, kept, e := Find(x.h, x.i, x.k, nil)
		if e != x.e || len(l)+len(kept) > 0 || Check(x.h, x.i, x.k, nil, nil, nil) != e {
			t.Error("P28.2, P28.3:", i, e)
		}
	}
}

func TestBasis(t *testing.T) {
	terms := []api.Term{{Name: "anna", Broader: []string{"woman"}}, {Name: "anne", See: "anna"}, {Name: "rome"}, {Name: "woman"}}
	p := api.Passage{Text: "Anne", Form: 3, Lang: 2}
	want := hash.Of(api.TagState, "Anne", string(wire.Ints([]int{3, 2})), string(vocabulary.Encode(terms[:2])))
	if d, e := Basis(p, terms); d != want || e != api.OK {
		t.Error("P28.1:", d, e)
	}
	if d, e := Basis(p, []api.Term{{}}); d != (api.Digest{}) || e != api.ErrArg {
		t.Error("P28.1:", e)
	}
}

func TestWhy(t *testing.T) {
	a, b := id(2, 0), id(3, 0)
	start := func(rest ...api.Event) *history.History {
		return play(t, append([]api.Event{op(api.Op{Kind: api.OpVolume}), op(api.Op{Kind: api.OpArticle, Text: "x"}), insert(0, "anna king"), insert(1, "rome"), term(api.Term{Name: "anna"}), term(api.Term{Name: "king", Broader: []string{"ruler"}}), term(api.Term{Name: "ruler"}), edition}, rest...)...)
	}
	for i, x := range []struct {
		h    *history.History
		ids  []api.ID
		want []Item
		kept []api.Link
	}{
		{start(edition), []api.ID{a}, []Item{{b, New, ""}}, []api.Link{{From: a, To: a}}},
		{start(term(api.Term{Name: "king"}), edition), []api.ID{a, b}, []Item{{a, Terms, "king"}}, []api.Link{{From: b, To: b}}},
		{start(term(api.Term{Name: "king"}), term(api.Term{Name: "anna", See: "king"}), edition), []api.ID{a}, []Item{{a, Terms, "anna"}, {b, New, ""}}, nil},
		{start(term(api.Term{Name: "anna king"}), edition), []api.ID{a}, []Item{{a, Terms, "anna"}, {b, New, ""}}, nil},
		{start(term(api.Term{Name: "king", See: "zz"}), edition), []api.ID{a}, []Item{{a, Terms, "anna"}, {b, New, ""}}, nil},
		{start(op(api.Op{Kind: api.OpMerge, At: a}), edition), []api.ID{a, b}, []Item{{id(8, 0), Text, ""}}, nil},
		{start(op(api.Op{Kind: api.OpRewrite, At: a, N: 2, Texts: []string{"anna king"}, Pairs: [][2]int{{0, 0}, {1, 0}}}), edition), []api.ID{a}, nil, []api.Link{{From: a, To: id(8, 0)}}},
		{start(op(api.Op{Kind: api.OpRewrite, At: a, N: 2, Texts: []string{"anna king"}, Pairs: [][2]int{{0, 0}, {1, 0}}}), edition), []api.ID{a, b}, []Item{{id(8, 0), Text, ""}}, nil},
		{start(op(api.Op{Kind: api.OpRewrite, At: a, N: 1, Texts: []string{"anna king", "x"}, Pairs: [][2]int{{0, 0}, {0, 1}}}), edition), []api.ID{a}, []Item{{id(8, 0), Text, ""}, {id(8, 1), Text, ""}, {b, New, ""}}, nil},
	} {
		l, kept, e := Find(x.h, 0, 1, x.ids)
		var links []api.Link
		for _, k := range kept {
			links = append(links, api.Link{From: k.From, To: k.ID})
		}
		if !slices.Equal(l, x.want) || !slices.Equal(links, x.kept) || e != api.OK {
			t.Error("P28.2:", i, l, kept, e)
		}
	}
}

func TestCarry(t *testing.T) {
	a, b, c := id(2, 0), id(3, 0), id(4, 0)
	posts := []api.Post{{ID: b, Path: []string{"x"}, Main: true}, {ID: c, Path: []string{"y"}}, {ID: a, Path: []string{"z"}}, {ID: b, Path: []string{"w"}}}
	l := Carry([]Kept{{ID: c, From: b}, {ID: a, From: a}, {ID: a, From: b}}, posts)
	if want := []api.Post{{ID: c, Path: []string{"x"}, Main: true}, {ID: a, Path: []string{"z"}}, {ID: c, Path: []string{"w"}}}; !reflect.DeepEqual(l, want) {
		t.Error("P28.4:", l)
	}
	l[0].Path[0] = "changed"
	if posts[0].Path[0] != "x" {
		t.Error("P28.4: memory is shared")
	}
}

func random(t *testing.T, r *rand.Rand) *history.History {
	l := []api.Event{op(api.Op{Kind: api.OpVolume}), op(api.Op{Kind: api.OpArticle, Text: "x"}), insert(0, "a b"), insert(0, "c d"), edition}
	for len(l) < 40 {
		all := work.All(play(t, slices.Clone(l)...).Work())
		at := id(0, 0)
		if len(all) > 0 {
			at = all[r.Intn(len(all))].ID
		}
		l = append(l, []api.Event{edition, insert(0, "a b c"), insert(0, "d"), op(api.Op{Kind: api.OpSplit, At: at, N: 1}), op(api.Op{Kind: api.OpMerge, At: at}), op(api.Op{Kind: api.OpRewrite, At: at, N: 1, Texts: []string{"b c"}, Pairs: [][2]int{{0, 0}}}),
			term(api.Term{Name: []string{"a", "b", "c", "d"}[r.Intn(4)], Kind: r.Intn(2)})}[r.Intn(7)])
	}
	return play(t, l...)
}

func TestProperties(t *testing.T) {
	r := rand.New(rand.NewSource(1))
	for range 25 {
		h := random(t, r)
		n := h.Editions()
		for range 10 {
			i := r.Intn(n)
			k := i + r.Intn(n-i)
			m := k + r.Intn(n-k)
			w, _ := h.Edition(i)
			var ids []api.ID
			for _, p := range work.All(w) {
				if r.Intn(3) > 0 {
					ids = append(ids, p.ID)
				}
			}
			l, kept, _ := Find(h, i, k, ids)
			checkKept(t, h, i, k, l, kept)
			checkNeeded(t, h, i, k, ids, l)
			if _, same, _ := Find(h, i, i, ids); len(same) != len(ids) {
				t.Fatal("P28.7:", same, ids)
			}
			mid, _ := h.Edition(k)
			var all []api.ID
			for _, p := range work.All(mid) {
				all = append(all, p.ID)
			}
			_, second, _ := Find(h, k, m, all)
			_, whole, _ := Find(h, i, m, ids)
			for _, y := range second {
				for _, x := range kept {
					if x.ID == y.From && !slices.ContainsFunc(whole, func(z Kept) bool { return z.ID == y.ID && z.From == x.From }) {
						t.Fatal("P28.8:", i, k, m, x, y)
					}
				}
			}
		}
	}
}

func checkNeeded(t *testing.T, h *history.History, i, k int, ids []api.ID, l []Item) {
	before, _ := h.Edition(i)
	after, _ := h.Edition(k)
	links, _ := h.Links(i, k)
	for _, x := range l {
		if x.Why != Text {
			continue
		}
		s, _ := work.Find(after, x.ID)
		p, _ := work.At(after, s)
		from := slices.DeleteFunc(descent.Up(links, x.ID), func(id api.ID) bool { return !slices.Contains(ids, id) })
		other := func(id api.ID) bool {
			s, _ := work.Find(before, id)
			q, _ := work.At(before, s)
			return q.Text != p.Text || q.Form != p.Form || q.Lang != p.Lang || len(descent.Down(links, id)) > 1
		}
		if len(from) < 2 && !slices.ContainsFunc(from, other) {
			t.Fatal("P28.9:", x, from)
		}
	}
}

func checkKept(t *testing.T, h *history.History, i, k int, l []Item, kept []Kept) {
	before, _ := h.Edition(i)
	after, _ := h.Edition(k)
	counts, from := map[api.ID]int{}, map[api.ID]int{}
	for _, x := range l {
		counts[x.ID]++
	}
	for _, x := range kept {
		counts[x.ID]++
		from[x.From]++
		s, _ := work.Find(before, x.From)
		p, _ := work.At(before, s)
		s, _ = work.Find(after, x.ID)
		q, _ := work.At(after, s)
		d, _ := Basis(p, termsOf(h, i))
		d2, _ := Basis(q, termsOf(h, k))
		if p.Text != q.Text || d != x.Basis || d2 != d || from[x.From] > 1 {
			t.Fatal("P28.5, P28.6:", x)
		}
	}
	for _, p := range work.All(after) {
		if counts[p.ID] != 1 {
			t.Fatal("P28.5:", p.ID)
		}
	}
}
