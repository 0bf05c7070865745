package history

import (
	"math/rand"
	"reflect"
	"slices"
	"testing"

	"passim/api"
	"passim/descent"
	"passim/event"
	"passim/work"
)

func id(by, seq, k int) api.ID { return api.ID{By: by, Seq: seq, K: k} }

func link(a, b api.ID) api.Link { return api.Link{From: a, To: b} }

// number gives events of one person their numbers and ticks.
func number(l ...api.Event) []api.Event {
	for i := range l {
		l[i].Seq, l[i].Tick = i, i+1
	}
	return l
}

func op(o api.Op) api.Event { return api.Event{Kind: api.EvEdit, Op: o} }

func example() []api.Event {
	return number(
		op(api.Op{Kind: api.OpVolume}), op(api.Op{Kind: api.OpArticle, Text: "Odes"}), op(api.Op{Kind: api.OpInsert, Text: "the king"}), api.Event{Kind: api.EvEdition},
		op(api.Op{Kind: api.OpSplit, At: id(0, 2, 0), N: 1}), op(api.Op{Kind: api.OpDelete, At: id(0, 4, 1)}), api.Event{Kind: api.EvEdition})
}

func play(t *testing.T, l []api.Event) *History {
	h, n, e := Play(l)
	if h == nil || n != len(l) || e != api.OK {
		t.Fatal("P11.1:", h, n, e)
	}
	return h
}

func TestExample(t *testing.T) {
	h := play(t, example())
	if l, e := h.Links(0, 1); !slices.Equal(l, []api.Link{link(id(0, 2, 0), id(0, 4, 0))}) || e != api.OK {
		t.Error("P11.4:", l, e)
	}
	if l := h.Direct(); !slices.Equal(l, []api.Link{link(id(0, 2, 0), id(0, 4, 0)), link(id(0, 2, 0), id(0, 4, 1))}) {
		t.Error("P11.4:", l)
	}
	for at, want := range map[api.ID]api.Name{id(0, 2, 0): {Seq: 4}, id(0, 4, 1): {Seq: 5}} {
		if n, ok := h.Cause(at); n != want || !ok {
			t.Error("P11.5:", at, n, ok)
		}
	}
	if n, ok := h.Cause(id(0, 4, 0)); n != (api.Name{}) || ok {
		t.Error("P11.5:", n, ok)
	}
	l := example()
	l[5].Op.At = id(0, 2, 0)
	if v := play(t, l).Void(); !slices.Equal(v, []api.Name{{Seq: 5}}) {
		t.Error("P11.2:", v)
	}
	if h, n, e := Play(slices.Delete(example(), 3, 4)); h != nil || n != 3 || e != api.ErrNeed {
		t.Error("P11.1:", h, n, e)
	}
	if h, n, e := Play(make([]api.Event, 385)); h != nil || n != 0 || e != api.ErrLimit {
		t.Error("P11.1:", h, n, e)
	}
	if w, e := h.Edition(1); e != api.OK || !work.Same(w, h.Work()) || h.Editions() != 2 || work.All(w)[0].Text != "the" {
		t.Error("P11.3:", e)
	}
}

func TestErrors(t *testing.T) {
	h := play(t, example())
	for _, k := range []int{-1, 2, 1 << 40} {
		if w, e := h.Edition(k); e != api.ErrNone || len(w.List) != 0 {
			t.Error("P11.3:", e)
		}
		if l, e := h.Links(1, k); e != api.ErrNone || len(l) != 0 {
			t.Error("P11.4:", e)
		}
		if l, e := h.Terms(k); e != api.ErrNone || len(l) != 0 {
			t.Error("P11.6:", e)
		}
	}
	if l, e := h.Links(1, 0); e != api.ErrRange || len(l) != 0 {
		t.Error("P11.4:", e)
	}
	var none *History
	_, e := none.Edition(0)
	_, e2 := none.Links(0, 0)
	_, e3 := none.Terms(0)
	_, ok := none.Cause(id(0, 0, 0))
	if e != api.ErrNone || e2 != api.ErrNone || e3 != api.ErrNone || ok || none.Editions() != 0 || none.Events() != nil || none.Void() != nil || none.Direct() != nil || len(none.Work().List) != 0 {
		t.Error("a nil history")
	}
}

func TestVoid(t *testing.T) {
	term := func(name string, kind int) api.Event {
		return api.Event{Kind: api.EvTerm, Term: api.Term{Name: name, Kind: kind, Broader: []string{"b"}}}
	}
	l := number(term("rome", 1), term("king", 0), api.Event{Kind: api.EvEdition}, term("king", 2), op(api.Op{Kind: api.OpVolume}), op(api.Op{Kind: api.OpVolume, N: 1}), op(api.Op{Kind: api.OpArticle, Text: "x"}),
		op(api.Op{Kind: api.OpInsert, Text: "x"}), api.Event{Kind: api.EvPost, ID: id(0, 7, 0)}, api.Event{Kind: api.EvSettle, ID: id(0, 7, 1)}, api.Event{Kind: api.EvHold, ID: id(0, 7, 1)}, api.Event{Kind: api.EvHold, ID: id(0, 7, 0)}, api.Event{Kind: api.EvFree, ID: id(0, 8, 0)},
		op(api.Op{Kind: api.OpDelete, At: id(0, 7, 0)}), api.Event{Kind: api.EvFree, ID: id(0, 7, 0)}, api.Event{Kind: api.EvEdition})
	h := play(t, l)
	if v := h.Void(); !slices.Equal(v, []api.Name{{Seq: 5}, {Seq: 9}, {Seq: 10}, {Seq: 12}, {Seq: 14}}) {
		t.Error("P11.2:", v)
	}
	terms, _ := h.Terms(0)
	if len(terms) != 2 || terms[0].Name != "king" || terms[0].Kind != 0 || terms[1].Name != "rome" {
		t.Error("P11.6:", terms)
	}
	terms, _ = h.Terms(1)
	if len(terms) != 2 || terms[0].Kind != 2 {
		t.Error("P11.6:", terms)
	}
	terms[0].Broader[0] = "changed"
	h.Events()[1].Term.Broader[0] = "changed"
	if again, _ := h.Terms(1); again[0].Broader[0] != "b" || !event.Same(h.Events()[1], l[1]) {
		t.Error("P11.6: memory is shared")
	}
	h = play(t, number(slices.Repeat([]api.Event{{Kind: api.EvEdition}}, 18)...))
	if v := h.Void(); h.Editions() != 16 || !slices.Equal(v, []api.Name{{Seq: 16}, {Seq: 17}}) {
		t.Error("P11.2: too many editions:", v)
	}
}

// random returns events of two persons that edit a work.
func random(r *rand.Rand) []api.Event {
	l := number(op(api.Op{Kind: api.OpVolume}), op(api.Op{Kind: api.OpArticle, Text: "Odes"}), op(api.Op{Kind: api.OpInsert, Text: "a b c"}))
	counts := [2]int{3, 0}
	for range 40 {
		var ids []api.ID
		h, _, _ := Play(l)
		for _, p := range work.All(h.Work()) {
			ids = append(ids, p.ID)
		}
		at := id(0, 0, 0)
		if len(ids) > 0 {
			at = ids[r.Intn(len(ids))]
		}
		e := []api.Event{{Kind: api.EvEdition}, op(api.Op{Kind: api.OpInsert, Text: "a b c d"}), op(api.Op{Kind: api.OpInsert, Text: "a b c d"}), op(api.Op{Kind: api.OpSplit, At: at, N: 1}), op(api.Op{Kind: api.OpMerge, At: at}), op(api.Op{Kind: api.OpDelete, At: at}),
			op(api.Op{Kind: api.OpRewrite, At: at, N: 1, Texts: []string{"x y", "z"}, Pairs: [][2]int{{0, 1}}}), op(api.Op{Kind: api.OpMove, At: at})}[r.Intn(8)]
		e.By = r.Intn(2)
		e.Seq, e.Tick = counts[e.By], len(l)+1
		counts[e.By]++
		l = append(l, e)
	}
	return l
}

func TestProperties(t *testing.T) {
	r := rand.New(rand.NewSource(1))
	for range 25 {
		l := random(r)
		h := play(t, l)
		mixed := slices.Clone(l)
		r.Shuffle(len(l), func(i, j int) { mixed[i], mixed[j] = mixed[j], mixed[i] })
		if !reflect.DeepEqual(play(t, mixed), h) {
			t.Fatal("P11.7")
		}
		part := play(t, l[:len(l)*2/3])
		for k := range part.Editions() {
			a, _ := part.Edition(k)
			b, _ := h.Edition(k)
			x, _ := part.Links(0, k)
			y, _ := h.Links(0, k)
			if !work.Same(a, b) || !slices.Equal(x, y) {
				t.Fatal("P11.8:", k)
			}
		}
		for at, n := range part.causes {
			if m, ok := h.Cause(at); m != n || !ok {
				t.Fatal("P11.8:", at)
			}
		}
		checkEditions(t, h)
	}
}

func checkEditions(t *testing.T, h *History) {
	n := h.Editions()
	for i := range n {
		w, _ := h.Edition(i)
		if work.Valid(w) != api.OK {
			t.Fatal("P11.11:", i)
		}
		if l, _ := h.Links(i, i); !slices.Equal(l, descent.Still(w)) {
			t.Fatal("P11.9:", i)
		}
		for _, p := range work.All(w) {
			_, gone := h.Cause(p.ID)
			if _, there := work.Find(h.Work(), p.ID); gone == there {
				t.Fatal("P11.10:", p.ID)
			}
			if e := h.events[event.Find(h.events, api.Name{By: p.ID.By, Seq: p.ID.Seq})]; e.Kind != api.EvEdit {
				t.Fatal("P11.11:", p.ID)
			}
		}
		for k := i; k < n; k++ {
			for m := k; m < n; m++ {
				a, _ := h.Links(i, k)
				b, _ := h.Links(k, m)
				c, _ := h.Links(i, m)
				if !slices.Equal(descent.Compose(a, b), c) {
					t.Fatal("P11.9:", i, k, m)
				}
			}
		}
	}
}
