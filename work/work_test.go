package work

import (
	"math/rand"
	"reflect"
	"slices"
	"strings"
	"testing"

	"passim/api"
	"passim/hash"
	"passim/wire"
)

func id(by, seq, k int) api.ID { return api.ID{By: by, Seq: seq, K: k} }

func example() api.Work {
	return api.Work{List: []api.Volume{{List: []api.Article{{Title: "Odes", List: []api.Passage{
		{ID: id(0, 0, 0), Text: "the king @", Refs: []api.ID{id(0, 1, 0)}},
		{ID: id(0, 1, 0), Form: api.Note, Text: "a lyre"},
		{ID: id(0, 2, 0), Form: api.Plate, Text: "rome"},
	}}}}}}
}

// list returns the passages of the only article.
func list(w *api.Work) *[]api.Passage { return &w.List[0].List[0].List }

func TestValid(t *testing.T) {
	for i, x := range []struct {
		change func(w *api.Work)
		e      api.Errno
	}{
		{func(w *api.Work) {}, api.OK},
		{func(w *api.Work) { *w = api.Work{} }, api.OK},
		{func(w *api.Work) { w.List = make([]api.Volume, 8) }, api.OK},
		{func(w *api.Work) { w.List = make([]api.Volume, 9) }, api.ErrLimit},
		{func(w *api.Work) { w.List[0].List = slices.Repeat([]api.Article{{Title: "x"}}, 64) }, api.OK},
		{func(w *api.Work) { w.List[0].List = make([]api.Article, 65) }, api.ErrLimit},
		{func(w *api.Work) { *list(w) = make([]api.Passage, 1025) }, api.ErrLimit},
		{func(w *api.Work) { w.List[0].List[0].Title = "" }, api.ErrArg},
		{func(w *api.Work) { w.List[0].List[0].Title = "a @" }, api.ErrArg},
		{func(w *api.Work) { (*list(w))[0].Refs = nil }, api.ErrArg},
		{func(w *api.Work) { (*list(w))[0].Refs[0] = id(-1, 0, 0) }, api.OK},
		{func(w *api.Work) { (*list(w))[0].Refs[0] = id(-1, 0, 1) }, api.ErrArg},
		{func(w *api.Work) { (*list(w))[0].Refs[0] = id(5, 63, 1023) }, api.OK},
		{func(w *api.Work) { (*list(w))[0].Refs[0] = id(5, 63, 1024) }, api.ErrArg},
		{func(w *api.Work) { (*list(w))[0].ID = id(-1, 0, 0) }, api.ErrArg},
		{func(w *api.Work) { (*list(w))[0].ID = id(6, 0, 0) }, api.ErrArg},
		{func(w *api.Work) { (*list(w))[0].ID = id(0, 64, 0) }, api.ErrArg},
		{func(w *api.Work) { (*list(w))[1].Form = 4 }, api.ErrArg},
		{func(w *api.Work) { (*list(w))[1].Form = -1 }, api.ErrArg},
		{func(w *api.Work) { (*list(w))[1].Lang = 4 }, api.ErrArg},
		{func(w *api.Work) { (*list(w))[1].Lang = 3 }, api.OK},
		{func(w *api.Work) { (*list(w))[1].Text = "a  b" }, api.ErrArg},
		{func(w *api.Work) { (*list(w))[2].ID = id(0, 0, 0) }, api.ErrTwice},
		{func(w *api.Work) { slices.Reverse((*list(w))[:2]) }, api.ErrState},
		{func(w *api.Work) { slices.Reverse((*list(w))[1:]) }, api.ErrState},
		{func(w *api.Work) { slices.Reverse((*list(w))[1:]); (*list(w))[0].ID = id(0, 1, 0) }, api.ErrTwice},
		{func(w *api.Work) {
			w.List[0].List = append(w.List[0].List, api.Article{Title: "x", List: (*list(w))[1:2]})
			*list(w) = (*list(w))[:1]
		}, api.ErrState},
	} {
		w := example()
		x.change(&w)
		if e := Valid(w); e != x.e {
			t.Error("P7.1:", i, e)
		}
	}
}

func TestFind(t *testing.T) {
	w := example()
	if s, ok := Find(w, id(0, 1, 0)); s != (api.Spot{Index: 1}) || !ok {
		t.Error("P7.2:", s, ok)
	}
	if s, ok := Find(w, id(5, 5, 5)); s != (api.Spot{}) || ok {
		t.Error("P7.2:", s, ok)
	}
	if p, ok := At(w, api.Spot{Index: 2}); p.Text != "rome" || !ok {
		t.Error("P7.2:", p, ok)
	}
	for _, s := range []api.Spot{{Index: 3}, {Index: -1}, {Volume: 1}, {Volume: -1}, {Article: 1}, {Article: -1}} {
		if p, ok := At(w, s); !reflect.DeepEqual(p, api.Passage{}) || ok {
			t.Error("P7.2:", s, p, ok)
		}
	}
	if l := Order(w, []api.ID{id(0, 2, 0), id(5, 5, 5), id(0, 0, 0), id(0, 2, 0)}); !slices.Equal(l, []api.ID{id(0, 0, 0), id(0, 2, 0)}) {
		t.Error("P7.4:", l)
	}
	if !Before(w, id(0, 0, 0), id(0, 2, 0)) || Before(w, id(0, 2, 0), id(0, 0, 0)) || Before(w, id(0, 0, 0), id(0, 0, 0)) || Before(w, id(0, 0, 0), id(9, 0, 0)) {
		t.Error("P7.4: Before")
	}
	(*list(&w))[2].ID = id(0, 0, 0)
	if s, _ := Find(w, id(0, 0, 0)); s.Index != 0 || !Before(w, id(0, 0, 0), id(0, 1, 0)) || len(Order(w, []api.ID{id(0, 0, 0)})) != 1 {
		t.Error("P7.2, P7.4: the first one counts")
	}
	if n := Size(w); n != [3]int{1, 1, 3} || len(All(w)) != 3 || All(w)[1].Text != "a lyre" {
		t.Error("P7.3:", n)
	}
}

func TestMemory(t *testing.T) {
	w := example()
	c, l := Copy(w), All(w)
	p, _ := At(w, api.Spot{})
	if !Same(c, w) {
		t.Error("P7.5")
	}
	(*list(&c))[0].Refs[0] = id(3, 3, 3)
	(*list(&c))[1].Text = "x"
	l[0].Refs[0], p.Refs[0] = id(4, 4, 4), id(4, 4, 4)
	if !Same(w, example()) || Same(w, c) {
		t.Error("P7.5: memory is shared")
	}
	if !Same(api.Work{List: []api.Volume{}}, api.Work{}) {
		t.Error("P7.5: nil and empty lists are the same")
	}
}

func random(r *rand.Rand) api.Work {
	var w api.Work
	n := 0
	for range r.Intn(4) {
		var v api.Volume
		for range r.Intn(4) {
			a := api.Article{Title: "t" + strings.Repeat("i", r.Intn(3))}
			for k := range r.Intn(5) {
				p := api.Passage{ID: id(r.Intn(6), n, r.Intn(9)), Form: r.Intn(4), Lang: r.Intn(4), Text: strings.TrimSuffix(strings.Repeat("ab @ ", 1+r.Intn(2)), " ")}
				for range strings.Count(p.Text, "@") {
					p.Refs = append(p.Refs, []api.ID{id(-1, 0, 0), id(1, 2, 3)}[r.Intn(2)])
				}
				if p.Form == api.Note && (k == 0 || a.List[k-1].Form == api.Plate) {
					p.Form = api.Table
				}
				a.List = append(a.List, p)
				n++
			}
			v.List = append(v.List, a)
		}
		w.List = append(w.List, v)
	}
	return w
}

func TestReading(t *testing.T) {
	r := rand.New(rand.NewSource(1))
	for range 200 {
		w := random(r)
		if e := Valid(w); e != api.OK {
			t.Fatal(e)
		}
		var ids []api.ID
		for _, p := range All(w) {
			ids = append(ids, p.ID)
			s, _ := Find(w, p.ID)
			if q, ok := At(w, s); !ok || !reflect.DeepEqual(p, q) {
				t.Fatal("P7.7:", s)
			}
		}
		mixed := slices.Clone(ids)
		r.Shuffle(len(mixed), func(i, j int) { mixed[i], mixed[j] = mixed[j], mixed[i] })
		if !slices.Equal(Order(w, mixed), ids) {
			t.Fatal("P7.7: Order")
		}
		for i, a := range ids {
			for j, b := range ids {
				if Before(w, a, b) != (i < j) {
					t.Fatal("P7.7: Before")
				}
			}
		}
		if len(w.List) > 1 {
			w.List[0], w.List[1] = w.List[1], w.List[0]
			w.List[0].List = append(w.List[0].List, w.List[1].List...)
			w.List[1].List = nil
		}
		if Valid(w) != api.OK {
			t.Fatal("P7.9")
		}
		for i := range w.List {
			if Valid(api.Work{List: slices.Delete(slices.Clone(w.List), i, i+1)}) != api.OK {
				t.Fatal("P7.9")
			}
		}
	}
}

func TestBytes(t *testing.T) {
	w := example()
	b := Encode(w)
	want := slices.Concat(wire.Int(1), wire.Int(1), wire.Bytes("Odes"), wire.Int(3), wire.Ints([]int{0, 0, 0, 0, 0}), wire.Bytes("the king @"), wire.Ints([]int{0, 1, 0}),
		wire.Ints([]int{0, 1, 0, 1, 0}), wire.Bytes("a lyre"), wire.Ints(nil), wire.Ints([]int{0, 2, 0, 2, 0}), wire.Bytes("rome"), wire.Ints(nil))
	if !slices.Equal(b, want) || Digest(w) != hash.Of(api.TagWork, string(b)) {
		t.Error("P7.6:", b)
	}
	for k := range b {
		if x, used, e := Decode(b[:k]); !reflect.DeepEqual(x, api.Work{}) || used != 0 || e != api.ErrMore {
			t.Error("P7.8:", k, x, used, e)
		}
	}
	r := rand.New(rand.NewSource(2))
	last := api.Work{}
	for range 200 {
		w := random(r)
		b := Encode(w)
		if x, used, e := Decode(append(slices.Clone(b), 7)); !Same(x, w) || used != len(b) || e != api.OK {
			t.Fatal("P7.8:", used, e)
		}
		if Same(w, last) != slices.Equal(b, Encode(last)) {
			t.Fatal("P7.8: equal works")
		}
		last = w
	}
	one := slices.Concat(wire.Int(1), wire.Int(1), wire.Bytes("t"), wire.Int(1))
	for i, b := range [][]byte{wire.Int(-1), slices.Concat(wire.Int(1), wire.Int(-1)), slices.Concat(wire.Int(1), wire.Int(1), wire.Bytes(""), wire.Int(-2)), slices.Concat(one, wire.Ints([]int{1, 2, 3, 4})),
		slices.Concat(one, wire.Ints(make([]int, 5)), wire.Bytes(""), wire.Ints([]int{1, 2})), {1}, slices.Concat(one, []byte{127})} {
		if x, used, e := Decode(b); !reflect.DeepEqual(x, api.Work{}) || used != 0 || e != api.ErrForm {
			t.Error("P7.6:", i, x, used, e)
		}
	}
	if _, _, e := Decode(wire.Int(1 << 60)); e != api.ErrMore {
		t.Error("P7.6:", e)
	}
}
