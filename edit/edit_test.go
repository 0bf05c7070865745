package edit

import (
	"math"
	"math/rand"
	"reflect"
	"slices"
	"strings"
	"testing"

	"passim/api"
	"passim/token"
	"passim/wire"
	"passim/work"
)

func id(by, seq, k int) api.ID { return api.ID{By: by, Seq: seq, K: k} }

func spot(v, a, i int) api.Spot { return api.Spot{Volume: v, Article: a, Index: i} }

var name = api.Name{By: 1, Seq: 3}

func example() api.Work {
	return api.Work{List: []api.Volume{{List: []api.Article{{Title: "Odes", List: []api.Passage{
		{ID: id(0, 0, 0), Text: "the king @", Refs: []api.ID{id(0, 1, 0)}},
		{ID: id(0, 1, 0), Form: api.Note, Text: "a lyre"},
		{ID: id(0, 2, 0), Form: api.Plate, Text: "rome"},
	}}}}}}
}

// show writes the passages of an article.
func show(w api.Work, v, a int) string {
	s := ""
	for _, p := range w.List[v].List[a].List {
		s += string(rune('0'+p.ID.By)) + string(rune('0'+p.ID.Seq)) + string(rune('0'+p.ID.K)) + string("pnlt"[p.Form]) + " " + p.Text + strings.Repeat("*", len(p.Refs)) + "; "
	}
	return s
}

func TestDo(t *testing.T) {
	none := id(-1, 0, 0)
	for i, x := range []struct {
		o    api.Op
		want string
	}{
		{api.Op{Kind: api.OpSplit, At: id(0, 0, 0), N: 1}, "130p the; 131p king @*; 010n a lyre; 020l rome; "},
		{api.Op{Kind: api.OpInsert, Spot: spot(0, 0, 2), Form: api.Table, Text: "12"}, "000p the king @*; 010n a lyre; 130t 12; 020l rome; "},
		{api.Op{Kind: api.OpRewrite, At: id(0, 0, 0), N: 2, Texts: []string{"a king", "a lyre"}, Pairs: [][2]int{{0, 0}, {1, 1}}}, "130p a king; 131p a lyre; 020l rome; "},
		{api.Op{Kind: api.OpRewrite, At: id(0, 0, 0), N: 1, Texts: []string{"@", "b @ @"}, Refs: []api.ID{none, none, none}}, "130p @*; 131p b @ @**; 010n a lyre; 020l rome; "},
		{api.Op{Kind: api.OpDelete, At: id(0, 1, 0)}, "000p the king @*; 020l rome; "},
		{api.Op{Kind: api.OpMove, At: id(0, 2, 0)}, "020l rome; 000p the king @*; 010n a lyre; "},
		{api.Op{Kind: api.OpMove, At: id(0, 0, 0), Spot: spot(0, 1, 0)}, ""},
		{api.Op{Kind: api.OpSwap, At: id(0, 0, 0), To: id(0, 0, 0)}, "000p the king @*; 010n a lyre; 020l rome; "},
		{api.Op{Kind: api.OpRefer, At: id(0, 0, 0), Refs: []api.ID{none}}, "000p the king @*; 010n a lyre; 020l rome; "},
	} {
		w := example()
		before := work.Copy(w)
		got, e := Do(w, x.o, name)
		if x.want == "" {
			if e != api.ErrNone {
				t.Error("P8.1:", i, e)
			}
			continue
		}
		if e != api.OK || show(got, 0, 0) != x.want || Check(w, x.o, name) != api.OK {
			t.Error("P8.1:", i, e, show(got, 0, 0))
		}
		if !work.Same(w, before) {
			t.Error("P8.1: the argument changed:", i)
		}
	}
	w, e := Do(example(), api.Op{Kind: api.OpVolume}, name)
	w, e2 := Do(w, api.Op{Kind: api.OpArticle, Spot: spot(1, 0, 0), Text: "Songs"}, name)
	w, e3 := Do(w, api.Op{Kind: api.OpMove, At: id(0, 0, 0), Spot: spot(1, 0, 0)}, name)
	if e != api.OK || e2 != api.OK || e3 != api.ErrState || len(w.List) != 0 {
		t.Error("P8.1:", e, e2, e3)
	}
	two := example()
	two.List[0].List[0].List[1] = api.Passage{ID: id(0, 5, 0), Text: "sings @ @", Refs: []api.ID{none, id(0, 2, 0)}}
	if w, e := Do(two, api.Op{Kind: api.OpMerge, At: id(0, 0, 0)}, name); e != api.OK || show(w, 0, 0) != "130p the king @ sings @ @***; 020l rome; " || w.List[0].List[0].List[0].Refs[0] != id(0, 1, 0) {
		t.Error("P8.1: merged:", e)
	}
	if w, e := Do(two, api.Op{Kind: api.OpRefer, At: id(0, 0, 0), Refs: []api.ID{id(4, 4, 4)}}, name); e != api.OK || w.List[0].List[0].List[0].Refs[0] != id(4, 4, 4) {
		t.Error("P8.1: referred:", e)
	}
}

func TestErrors(t *testing.T) {
	a, b, c := id(0, 0, 0), id(0, 1, 0), id(0, 2, 0)
	rewrite := func(n int, texts []string, refs int, pairs ...[2]int) api.Op {
		return api.Op{Kind: api.OpRewrite, At: a, N: n, Texts: texts, Pairs: pairs, Refs: slices.Repeat([]api.ID{id(-1, 0, 0)}, refs)}
	}
	one := []string{"x"}
	for i, x := range []struct {
		o  api.Op
		by api.Name
		e  api.Errno
	}{
		{api.Op{Kind: api.OpSwap, At: a, To: c}, name, api.ErrState},
		{api.Op{Kind: api.OpMerge, At: a}, name, api.ErrType},
		{api.Op{Kind: api.OpMerge, At: c}, name, api.ErrNone},
		{api.Op{Kind: api.OpMove, At: c, Spot: spot(0, 0, 3)}, name, api.ErrRange},
		{api.Op{Kind: api.OpMove, At: c, Spot: spot(0, 0, 2)}, name, api.OK},
		{api.Op{Kind: api.OpMove, At: c, Spot: spot(0, 0, -1)}, name, api.ErrRange},
		{api.Op{Kind: api.OpMove, At: c, Spot: spot(0, -1, 0)}, name, api.ErrNone},
		{api.Op{Kind: api.OpInsert, Spot: spot(0, 0, 3), Text: "x"}, name, api.OK},
		{api.Op{Kind: api.OpInsert, Spot: spot(0, 0, 4), Text: "x"}, name, api.ErrRange},
		{api.Op{Kind: api.OpInsert, Spot: spot(1, 0, 0), Text: "x"}, name, api.ErrNone},
		{api.Op{Kind: api.OpInsert, Text: "x", Form: 7}, name, api.ErrState},
		{api.Op{Kind: api.OpInsert, Text: "x @"}, name, api.ErrState},
		{api.Op{Kind: api.OpInsert, Text: "x"}, api.Name{By: 0, Seq: 0}, api.ErrState},
		{api.Op{Kind: api.OpInsert, Text: "x", N: 1}, name, api.ErrArg},
		{api.Op{Kind: api.OpVolume, Spot: spot(0, 0, 1)}, name, api.ErrArg},
		{api.Op{Kind: api.OpArticle, Text: "x"}, name, api.OK},
		{api.Op{Kind: api.OpArticle, Text: "x @"}, name, api.ErrState},
		{api.Op{Kind: api.OpArticle, Text: "x", Spot: spot(0, 1, 0)}, name, api.ErrArg},
		{api.Op{Kind: api.OpArticle, Text: "x", Spot: spot(1, 0, 0)}, name, api.ErrNone},
		{api.Op{Kind: api.OpDelete, At: a, To: b}, name, api.ErrArg},
		{api.Op{Kind: api.OpDelete, At: a}, name, api.ErrState},
		{api.Op{Kind: api.OpDelete, At: id(5, 5, 5)}, name, api.ErrNone},
		{api.Op{Kind: api.OpDelete, At: a, Texts: one}, name, api.ErrArg},
		{api.Op{Kind: api.OpDelete, At: a, Pairs: [][2]int{{}}}, name, api.ErrArg},
		{api.Op{Kind: api.OpDelete, At: a, Refs: []api.ID{{}}}, name, api.ErrArg},
		{api.Op{Kind: api.OpSplit, At: a, N: 1, Lang: 1}, name, api.ErrArg},
		{api.Op{Kind: api.OpSplit, At: a}, name, api.ErrRange},
		{api.Op{Kind: api.OpSplit, At: a, N: 3}, name, api.ErrRange},
		{api.Op{Kind: api.OpSwap, At: a, To: id(3, 3, 3)}, name, api.ErrNone},
		{api.Op{Kind: api.OpKinds}, name, api.ErrArg},
		{api.Op{Kind: -1}, name, api.ErrArg},
		{api.Op{Kind: api.OpVolume}, api.Name{By: 6}, api.ErrArg},
		{api.Op{Kind: api.OpVolume}, api.Name{Seq: 64}, api.ErrArg},
		{api.Op{Kind: api.OpVolume}, api.Name{Seq: -1}, api.ErrArg},
		{rewrite(0, one, 0), name, api.ErrRange}, {rewrite(5, one, 0), name, api.ErrRange}, {rewrite(4, one, 0), name, api.ErrRange}, {rewrite(3, one, 0), name, api.OK},
		{rewrite(1, nil, 0), name, api.ErrRange}, {rewrite(1, []string{"1", "2", "3", "4", "5"}, 0), name, api.ErrRange}, {rewrite(1, []string{"1", "2", "3", "4"}, 0), name, api.OK},
		{rewrite(1, one, 0, [2]int{1, 0}), name, api.ErrRange}, {rewrite(1, one, 0, [2]int{0, 1}), name, api.ErrRange}, {rewrite(1, one, 0, [2]int{-1, 0}), name, api.ErrRange},
		{rewrite(2, []string{"x", "y"}, 0, [2]int{0, 1}, [2]int{0, 0}), name, api.ErrRange}, {rewrite(2, []string{"x", "y"}, 0, [2]int{0, 1}, [2]int{0, 1}), name, api.ErrRange},
		{rewrite(1, one, 1), name, api.ErrState}, {rewrite(1, []string{""}, 0), name, api.ErrState}, {rewrite(math.MaxInt, one, 0), name, api.ErrRange}, {rewrite(math.MinInt, one, 3), name, api.ErrRange},
	} {
		if w, e := Do(example(), x.o, x.by); e != x.e || e != api.OK && len(w.List) != 0 || Check(example(), x.o, x.by) != e {
			t.Error("P8.1, P8.2:", i, e, x.e)
		}
	}
	bad := example()
	bad.List[0].List[0].Title = ""
	if _, e := Do(bad, api.Op{Kind: -1}, name); e != api.ErrArg {
		t.Error("P8.1:", e)
	}
	full := api.Work{List: make([]api.Volume, 8)}
	if _, e := Do(full, api.Op{Kind: api.OpVolume}, name); e != api.ErrState {
		t.Error("P8.1: no room:", e)
	}
}

func TestMade(t *testing.T) {
	want := []int{0, 0, 1, 0, 2, 1, 0, 0, 3, 0}
	for kind := -1; kind <= api.OpKinds; kind++ {
		n := Made(api.Op{Kind: kind, Texts: make([]string, 3)})
		if kind < 0 || kind == api.OpKinds {
			if n != 0 {
				t.Error("P8.3:", kind, n)
			}
		} else if n != want[kind] {
			t.Error("P8.3:", kind, n)
		}
	}
}

func TestInverse(t *testing.T) {
	if o, ok := Inverse(example(), api.Op{Kind: api.OpMove, At: id(0, 2, 0)}); !ok || !Same(o, api.Op{Kind: api.OpMove, At: id(0, 2, 0), Spot: spot(0, 0, 2)}) {
		t.Error("P8.4:", o, ok)
	}
	for _, o := range []api.Op{{Kind: api.OpMove, At: id(5, 0, 0)}, {Kind: api.OpDelete, At: id(0, 1, 0)}, {Kind: api.OpVolume}, {Kind: 99}, {Kind: api.OpSwap, At: id(0, 0, 0), To: id(0, 2, 0)}} {
		if back, ok := Inverse(example(), o); ok || !Same(back, api.Op{}) {
			t.Error("P8.4:", o, back, ok)
		}
	}
}

func TestApart(t *testing.T) {
	w := example()
	w.List[0].List = append(w.List[0].List, api.Article{Title: "x", List: []api.Passage{{ID: id(0, 9, 0), Text: "a b"}}}, api.Article{Title: "y"})
	del := func(i api.ID) api.Op { return api.Op{Kind: api.OpDelete, At: i} }
	insert := func(a int) api.Op { return api.Op{Kind: api.OpInsert, Spot: spot(0, a, 0), Text: "x"} }
	grow := func(n int) api.Op {
		return api.Op{Kind: api.OpRewrite, At: id(0, 9, 0), N: n, Texts: []string{"x"}}
	}
	for i, x := range []struct {
		o, p api.Op
		want bool
	}{{del(id(0, 0, 0)), del(id(0, 2, 0)), false}, {del(id(0, 0, 0)), del(id(0, 9, 0)), true}, {del(id(0, 0, 0)), del(id(0, 8, 0)), false}, {insert(0), insert(1), true}, {insert(1), insert(1), false}, {insert(0), insert(3), false},
		{insert(2), api.Op{Kind: api.OpMove, At: id(0, 0, 0), Spot: spot(0, 2, 0)}, false}, {insert(1), api.Op{Kind: api.OpMove, At: id(0, 0, 0), Spot: spot(0, 2, 0)}, true}, {insert(0), api.Op{Kind: api.OpVolume}, false}, {insert(0), api.Op{Kind: 10}, false},
		{insert(0), api.Op{Kind: -1}, false}, {insert(0), api.Op{Kind: api.OpSwap, At: id(0, 9, 0), To: id(0, 1, 0)}, false}, {insert(2), api.Op{Kind: api.OpSwap, At: id(0, 9, 0), To: id(0, 1, 0)}, true}, {insert(2), api.Op{Kind: api.OpSwap, At: id(0, 9, 0), To: id(0, 8, 0)}, false},
		{insert(0), grow(math.MaxInt), true}, {insert(0), grow(math.MinInt), false}, {insert(0), grow(-1018), true}, {insert(0), grow(-1019), false}, {insert(0), grow(5), true}} {
		if ok := Apart(w, x.o, x.p); ok != x.want || Apart(w, x.p, x.o) != ok {
			t.Error("P8.5:", i, ok)
		}
	}
}

// random returns an operation that is often possible.
func random(r *rand.Rand, w api.Work) api.Op {
	all := work.All(w)
	some := func() api.ID {
		if len(all) == 0 || r.Intn(20) == 0 {
			return id(r.Intn(3), r.Intn(3), 0)
		}
		return all[r.Intn(len(all))].ID
	}
	where := spot(r.Intn(2), r.Intn(3), r.Intn(3))
	o := api.Op{Kind: r.Intn(api.OpKinds)}
	text := []string{"king", "the king @", "a b c d"}[r.Intn(3)]
	switch o.Kind {
	case api.OpArticle:
		o.Spot.Volume, o.Text = where.Volume, "title"
	case api.OpInsert:
		o.Spot, o.Form, o.Text = where, r.Intn(4), text
	case api.OpMove:
		o.At, o.Spot = some(), where
	case api.OpSwap:
		o.At, o.To = some(), some()
	case api.OpSplit:
		o.At, o.N = some(), 1+r.Intn(2)
	case api.OpRewrite:
		o.At, o.N, o.Texts = some(), 1+r.Intn(2), []string{text, "x"}
		if r.Intn(2) == 0 {
			o.Pairs = [][2]int{{0, 1}}
		}
	case api.OpRefer, api.OpDelete, api.OpMerge:
		o.At = some()
	}
	marks := strings.Count(text, "@")
	if o.Kind == api.OpInsert || o.Kind == api.OpRewrite {
		o.Refs = slices.Repeat([]api.ID{some()}, marks)
	}
	if s, ok := work.Find(w, o.At); ok && o.Kind == api.OpRefer {
		p, _ := work.At(w, s)
		o.Refs = slices.Repeat([]api.ID{some()}, len(p.Refs))
	}
	return o
}

func TestProperties(t *testing.T) {
	r := rand.New(rand.NewSource(3))
	counts := [api.OpKinds]int{}
	aparts := 0
	for range 200 {
		w := example()
		for seq := range 60 {
			o, p, by := random(r, w), random(r, w), api.Name{By: 2, Seq: seq}
			if len(w.List) == 0 {
				o = api.Op{Kind: api.OpVolume}
			}
			next, e := Do(w, o, by)
			if Apart(w, o, p) {
				other, e2 := Do(w, p, name)
				if e == api.OK && e2 == api.OK {
					aparts++
					x, e3 := Do(next, p, name)
					y, e4 := Do(other, o, by)
					if e3 != api.OK || e4 != api.OK || !work.Same(x, y) {
						t.Fatal("P8.9:", o, p)
					}
				}
			}
			if e != api.OK {
				continue
			}
			counts[o.Kind]++
			checkKept(t, w, next, o, by)
			if back, ok := Inverse(w, o); ok {
				if x, e := Do(next, back, name); e != api.OK || !work.Same(x, w) {
					t.Fatal("P8.8:", o, back, e)
				}
			}
			if o.Kind == api.OpSplit {
				checkParts(t, w, next, o, by)
			}
			w = next
		}
	}
	if slices.Min(counts[:]) < 10 || aparts < 100 {
		t.Error("too few operations were tried:", counts, aparts)
	}
}

func checkKept(t *testing.T, w, next api.Work, o api.Op, by api.Name) {
	if work.Valid(next) != api.OK {
		t.Fatal("P8.7:", o)
	}
	grow := map[int]int{api.OpInsert: 1, api.OpSplit: 1, api.OpDelete: -1, api.OpMerge: -1, api.OpRewrite: len(o.Texts) - o.N}[o.Kind]
	if work.Size(next)[2]-work.Size(w)[2] != grow {
		t.Fatal("P8.7: growth:", o)
	}
	made := 0
	for _, p := range work.All(next) {
		if p.ID.By == by.By && p.ID.Seq == by.Seq {
			if p.ID.K != made {
				t.Fatal("P8.1: the IDs:", o)
			}
			made++
		} else if s, ok := work.Find(w, p.ID); !ok {
			t.Fatal("P8.7:", o, p)
		} else if q, _ := work.At(w, s); o.Kind != api.OpRefer && !reflect.DeepEqual(p, q) {
			t.Fatal("P8.7:", o, p, q)
		}
	}
	if made != Made(o) {
		t.Fatal("P8.3:", o, made)
	}
}

func checkParts(t *testing.T, w, next api.Work, o api.Op, by api.Name) {
	s, _ := work.Find(w, o.At)
	p, _ := work.At(w, s)
	a, _ := work.At(next, s)
	s2 := s
	s2.Index++
	b, _ := work.At(next, s2)
	if !slices.Equal(token.Words(p.Text), slices.Concat(token.Words(a.Text), token.Words(b.Text))) {
		t.Fatal("P8.10:", p.Text)
	}
	x, e := Do(next, api.Op{Kind: api.OpMerge, At: a.ID}, name)
	q, _ := work.At(x, s)
	q.ID = p.ID
	if e != api.OK || !reflect.DeepEqual(p, q) && (len(p.Refs) > 0 || len(q.Refs) > 0 || p.Text != q.Text) {
		t.Fatal("P8.10:", p, q, e)
	}
}

func TestBytes(t *testing.T) {
	o := api.Op{Kind: 1, At: id(2, 3, 4), To: id(5, 6, 7), Spot: spot(8, 9, 10), N: 11, Form: 12, Lang: 13, Text: "text", Texts: []string{"a", ""}, Pairs: [][2]int{{14, 15}, {-1, -2}}, Refs: []api.ID{id(16, 17, 18)}}
	b := Encode(o)
	want := slices.Concat(wire.Ints([]int{1, 2, 3, 4, 5, 6, 7, 8, 9, 10, 11, 12, 13}), wire.Bytes("text"), wire.Strings([]string{"a", ""}), wire.Ints([]int{14, 15, -1, -2}), wire.Ints([]int{16, 17, 18}))
	if !slices.Equal(b, want) {
		t.Error("P8.6:", b)
	}
	if p, used, e := Decode(append(slices.Clone(b), 0)); !Same(o, p) || used != len(b) || e != api.OK {
		t.Error("P8.11:", p, used, e)
	}
	for k := range b {
		if p, used, e := Decode(b[:k]); !Same(p, api.Op{}) || used != 0 || e != api.ErrMore {
			t.Error("P8.11:", k, p, used, e)
		}
	}
	for i, change := range []func(o *api.Op){func(o *api.Op) { o.Kind++ }, func(o *api.Op) { o.At.K++ }, func(o *api.Op) { o.To.K++ }, func(o *api.Op) { o.Spot.Index++ }, func(o *api.Op) { o.N++ }, func(o *api.Op) { o.Form++ }, func(o *api.Op) { o.Lang++ },
		func(o *api.Op) { o.Text += "x" }, func(o *api.Op) { o.Texts = nil }, func(o *api.Op) { o.Pairs = nil }, func(o *api.Op) { o.Refs = nil }} {
		p := o
		change(&p)
		if Same(o, p) || slices.Equal(Encode(o), Encode(p)) {
			t.Error("P8.6, P8.11:", i)
		}
	}
	if !Same(api.Op{Texts: []string{}}, api.Op{}) {
		t.Error("P8.6: nil and empty lists are the same")
	}
	head := wire.Ints(make([]int, 13))
	for i, b := range [][]byte{wire.Ints(make([]int, 12)), slices.Concat(head, wire.Bytes(""), wire.Strings(nil), wire.Ints([]int{1})), slices.Concat(head, wire.Bytes(""), wire.Strings(nil), wire.Ints(nil), wire.Ints([]int{1, 2})), {0}} {
		if p, used, e := Decode(b); !Same(p, api.Op{}) || used != 0 || e != api.ErrForm {
			t.Error("P8.6:", i, p, used, e)
		}
	}
}
