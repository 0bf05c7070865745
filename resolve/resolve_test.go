package resolve

import (
	"math/rand"
	"reflect"
	"slices"
	"testing"

	"passim/api"
	"passim/event"
	"passim/history"
	"passim/locator"
	"passim/page"
	"passim/printing"
	"passim/wire"
	"passim/work"
)

func id(by, seq, k int) api.ID { return api.ID{By: by, Seq: seq, K: k} }

func op(o api.Op) api.Event { return api.Event{Kind: api.EvEdit, Op: o} }

func number(l ...api.Event) []api.Event {
	for i := range l {
		l[i].Seq, l[i].Tick = i, i+1
	}
	return l
}

func play(t *testing.T, l []api.Event) *history.History {
	h, _, e := history.Play(l)
	if e != api.OK {
		t.Fatal(e)
	}
	return h
}

func example(t *testing.T) *history.History {
	return play(t, number(op(api.Op{Kind: api.OpVolume}), op(api.Op{Kind: api.OpArticle, Text: "Odes"}), op(api.Op{Kind: api.OpInsert, Text: "the king"}), api.Event{Kind: api.EvEdition},
		op(api.Op{Kind: api.OpSplit, At: id(0, 2, 0), N: 1}), op(api.Op{Kind: api.OpDelete, At: id(0, 4, 1)}), api.Event{Kind: api.EvEdition}))
}

func issue(h *history.History, k int, changes ...printing.Change) printing.Issue {
	w, _ := h.Edition(k)
	pages, _ := page.Lay(w, page.Style{Width: 12, Height: 4}, nil)
	x := printing.Issue{Edition: k, Pages: pages, Changes: changes, States: [][]int{nil}}
	for i := range changes {
		x.States = append(x.States, []int{i})
	}
	return x
}

func one(mark string, from, to int) locator.Locator {
	return locator.Locator{Mark: mark, List: []locator.Range{{From: locator.Point{Page: from}, To: locator.Point{Page: to}}}}
}

func TestExample(t *testing.T) {
	h := example(t)
	a, b := id(0, 2, 0), id(0, 4, 0)
	if l, e := Passages(h, 0, 1, []api.ID{a, id(5, 5, 5)}); !slices.Equal(l, []api.ID{b}) || e != api.OK {
		t.Error("P21.1:", l, e)
	}
	if l, e := Passages(h, 1, 0, []api.ID{b}); !slices.Equal(l, []api.ID{a}) || e != api.OK {
		t.Error("P21.1:", l, e)
	}
	for _, k := range []int{-1, 2} {
		if l, e := Passages(h, k, 0, nil); len(l) > 0 || e != api.ErrNone {
			t.Error("P21.1:", e)
		}
	}
	old, lost := issue(h, 0), issue(h, 1, printing.Change{Kind: printing.Lose, At: 1}, printing.Change{Kind: printing.Cancel, At: 1, Pages: []page.Page{{Number: 1, Lines: []page.Line{{ID: id(-1, 0, 0), Text: "x"}}}}})
	for i, x := range []struct {
		to    printing.Issue
		state int
		held  []api.ID
		want  Answer
	}{
		{lost, 0, nil, Answer{Found: []Found{{b, []api.ID{a}, []int{0}}}}},
		{lost, 0, []api.ID{a, b}, Answer{Reasons: []Reason{{From: a, Kind: Held, ID: b}}}},
		{lost, 1, nil, Answer{Reasons: []Reason{{From: a, Kind: Lost, ID: b}}}},
		{lost, 2, nil, Answer{Reasons: []Reason{{From: a, Kind: Gone, ID: b}}}},
		{lost, 2, []api.ID{b}, Answer{Reasons: []Reason{{From: a, Kind: Held, ID: b}}}},
		{old, 0, nil, Answer{Found: []Found{{a, []api.ID{a}, []int{0}}}}},
	} {
		got, e := Resolve(h, old, 0, x.to, x.state, one("e0", 1, 1), x.held)
		if !Same(got, x.want) || e != api.OK || Check(h, old, 0, x.to, x.state, one("e0", 1, 1), x.held, got) != api.OK {
			t.Error("P21.2, P21.3:", i, got, e)
		}
		got.Reasons = append(got.Reasons, Reason{})
		if e := Check(h, old, 0, x.to, x.state, one("e0", 1, 1), x.held, got); e != api.ErrProof {
			t.Error("P21.3:", i, e)
		}
	}
}

func TestReasons(t *testing.T) {
	h := play(t, number(op(api.Op{Kind: api.OpVolume}), op(api.Op{Kind: api.OpArticle, Text: "Odes"}), op(api.Op{Kind: api.OpInsert, Text: "a b c d"}), op(api.Op{Kind: api.OpInsert, Text: "x"}), api.Event{Kind: api.EvEdition},
		op(api.Op{Kind: api.OpSplit, At: id(0, 2, 0), N: 2}), op(api.Op{Kind: api.OpSplit, At: id(0, 5, 0), N: 1}), op(api.Op{Kind: api.OpDelete, At: id(0, 6, 1)}), op(api.Op{Kind: api.OpDelete, At: id(0, 5, 1)}),
		op(api.Op{Kind: api.OpRewrite, At: id(0, 6, 0), N: 1, Texts: []string{"new y"}}), op(api.Op{Kind: api.OpSplit, At: id(0, 9, 0), N: 1}), api.Event{Kind: api.EvEdition}))
	a, b := issue(h, 0), issue(h, 1)
	got, e := Resolve(h, a, 0, b, 0, one("e0", 1, 1), nil)
	want := Answer{Found: []Found{{id(0, 3, 0), []api.ID{id(0, 3, 0)}, []int{0}}}, Reasons: []Reason{{From: id(0, 2, 0), Kind: Cut, Event: api.Name{Seq: 9}}}}
	if !Same(got, want) || e != api.OK {
		t.Error("P21.2:", got, e)
	}
	got, e = Resolve(h, b, 0, a, 0, one("e1", 1, 1), nil)
	want.Reasons = []Reason{{From: id(0, 10, 0), Kind: Later, Event: api.Name{Seq: 9}}, {From: id(0, 10, 1), Kind: Later, Event: api.Name{Seq: 9}}}
	if !Same(got, want) || e != api.OK {
		t.Error("P21.2:", got, e)
	}
}

// TestForeign has a passage on a page that is none of the edition.
func TestForeign(t *testing.T) {
	h := example(t)
	from := issue(h, 0)
	from.Pages[0].Lines = append(from.Pages[0].Lines, page.Line{ID: id(5, 5, 5), Text: "x"})
	got, e := Resolve(h, from, 0, issue(h, 1), 0, one("e0", 1, 1), nil)
	if want := (Answer{Found: []Found{{id(0, 4, 0), []api.ID{id(0, 2, 0)}, []int{0}}}}); !Same(got, want) || e != api.OK {
		t.Error("P21.2:", got, e)
	}
}

func TestErrors(t *testing.T) {
	h := example(t)
	a, b := issue(h, 0), issue(h, 1)
	late := issue(h, 1)
	late.Edition = 2
	bad := issue(h, 0)
	bad.States = nil
	for i, x := range []struct {
		h        *history.History
		from, to printing.Issue
		s, t     int
		mark     string
		e        api.Errno
	}{{h, bad, b, 0, 0, "e0", api.ErrArg}, {h, a, b, 1, 0, "e0", api.ErrNone}, {h, a, b, 0, 0, "e1", api.ErrStale}, {h, a, bad, 0, 0, "e0", api.ErrArg}, {h, a, b, 0, 1, "e0", api.ErrNone}, {h, a, late, 0, 0, "e0", api.ErrNone}, {nil, a, b, 0, 0, "e0", api.ErrNone}, {nil, a, bad, 0, 0, "e0", api.ErrArg}, {nil, a, b, 0, 0, "e1", api.ErrStale}, {h, late, b, 0, 0, "e2", api.ErrNone}} {
		got, e := Resolve(x.h, x.from, x.s, x.to, x.t, one(x.mark, 1, 1), nil)
		if !Same(got, Answer{}) || e != x.e || Check(x.h, x.from, x.s, x.to, x.t, one(x.mark, 1, 1), nil, Answer{}) != e {
			t.Error("P21.2, P21.3:", i, e)
		}
	}
	if _, e := Locators(b, 0, Answer{Found: []Found{{ID: id(5, 5, 5)}}}); e != api.ErrNone {
		t.Error("P21.4:", e)
	}
}

func TestBytes(t *testing.T) {
	a := Answer{[]Found{{id(1, 2, 3), []api.ID{id(4, 5, 6)}, []int{7, 8}}}, []Reason{{id(1, 1, 1), Lost, api.Name{By: 2, Seq: 3}, id(4, 4, 4), 9}}}
	want := slices.Concat(wire.Int(1), wire.Ints([]int{1, 2, 3}), wire.Ints([]int{4, 5, 6}), wire.Ints([]int{7, 8}), wire.Int(1), wire.Ints([]int{1, 1, 1, 3, 2, 3, 4, 4, 4, 9}))
	if b := Encode(a); !slices.Equal(b, want) {
		t.Error("P21.5:", b)
	}
	for i, change := range []func(a *Answer){func(a *Answer) { a.Found[0].ID.K++ }, func(a *Answer) { a.Found[0].From = nil }, func(a *Answer) { a.Found[0].Pages = nil }, func(a *Answer) { a.Reasons[0].At++ }, func(a *Answer) { a.Found = nil }} {
		b := Answer{slices.Clone(a.Found), slices.Clone(a.Reasons)}
		if !Same(a, b) {
			t.Error("P21.5:", i)
		}
		if change(&b); Same(a, b) {
			t.Error("P21.5:", i)
		}
	}
}

// random returns a history with some editions.
func random(t *testing.T, r *rand.Rand) *history.History {
	l := number(op(api.Op{Kind: api.OpVolume}), op(api.Op{Kind: api.OpArticle, Text: "Odes"}), op(api.Op{Kind: api.OpInsert, Text: "a b c"}), op(api.Op{Kind: api.OpInsert, Text: "d e f"}), api.Event{Kind: api.EvEdition})
	for range 30 {
		all := work.All(play(t, l).Work())
		at := id(0, 0, 0)
		if len(all) > 0 {
			at = all[r.Intn(len(all))].ID
		}
		e := []api.Event{{Kind: api.EvEdition}, op(api.Op{Kind: api.OpInsert, Text: "a b c d"}), op(api.Op{Kind: api.OpInsert, Text: "a b c d"}), op(api.Op{Kind: api.OpSplit, At: at, N: 1}), op(api.Op{Kind: api.OpMerge, At: at}), op(api.Op{Kind: api.OpDelete, At: at}),
			op(api.Op{Kind: api.OpRewrite, At: at, N: 1, Texts: []string{"x y", "z"}, Pairs: [][2]int{{0, 1}}})}[r.Intn(7)]
		e.Seq, e.Tick = len(l), len(l)+1
		l = append(l, e)
	}
	return play(t, l)
}

func TestProperties(t *testing.T) {
	r := rand.New(rand.NewSource(1))
	for range 40 {
		h := random(t, r)
		n := h.Editions()
		i, k, m := r.Intn(n), r.Intn(n), r.Intn(n)
		from, to := issue(h, i), issue(h, k, printing.Change{Kind: printing.Lose, At: 1})
		if len(to.Pages) == 0 || len(from.Pages) == 0 {
			continue
		}
		read, _ := printing.Read(from, 0)
		ids := printing.Has(read)
		if k > min(i, m) && k < max(i, m) {
			through, _ := Passages(h, i, k, ids)
			a, _ := Passages(h, k, m, through)
			b, _ := Passages(h, i, m, ids)
			// What came after the edition i may be in m as an image of an image, if both steps lead to the same passages.
			if !reflect.DeepEqual(a, b) {
				t.Fatal("P21.8:", i, k, m, a, b)
			}
		}
		code, _ := printing.Code(from, 0)
		l := one(code, 1, len(from.Pages))
		var held []api.ID
		for _, p := range work.All(h.Work()) {
			if r.Intn(4) == 0 {
				held = append(held, p.ID)
			}
		}
		checkAnswer(t, h, from, to, r.Intn(2), l, held, ids)
		a, _ := Resolve(h, from, 0, from, 0, l, nil)
		if len(a.Reasons) > 0 || len(a.Found) != len(ids) {
			t.Fatal("P21.7:", a)
		}
		for n, f := range a.Found {
			if f.ID != ids[n] || !slices.Equal(f.From, []api.ID{f.ID}) {
				t.Fatal("P21.7:", f)
			}
		}
	}
}

func checkAnswer(t *testing.T, h *history.History, from, to printing.Issue, state int, l locator.Locator, held, ids []api.ID) {
	a, e := Resolve(h, from, 0, to, state, l, held)
	if e != api.OK {
		t.Fatal("P21.2:", e)
	}
	in := map[api.ID]int{}
	var found []api.ID
	for _, f := range a.Found {
		found = append(found, f.ID)
		if slices.Contains(held, f.ID) {
			t.Fatal("P21.6:", f)
		}
		for _, x := range f.From {
			in[x] |= 1
		}
	}
	events := h.Events()
	for _, x := range a.Reasons {
		in[x.From] |= 2
		if x.Kind <= Later {
			e := events[event.Find(events, x.Event)]
			if e.Kind != api.EvEdit || slices.Contains(h.Void(), x.Event) || x.Kind == Cut && e.Op.Kind != api.OpDelete && e.Op.Kind != api.OpRewrite {
				t.Fatal("P21.10:", x)
			}
		}
	}
	for _, x := range ids {
		if in[x] != 1 && in[x] != 2 {
			t.Fatal("P21.6:", x, in[x])
		}
	}
	list, e := Locators(to, state, a)
	if e != api.OK {
		t.Fatal("P21.4:", e)
	}
	var named []api.ID
	for _, one := range list {
		some, _ := locator.On(to, state, one)
		named = append(named, some...)
	}
	for _, x := range named {
		if !slices.Contains(found, x) {
			t.Fatal("P21.9:", x)
		}
	}
	if len(named) < len(found) {
		t.Fatal("P21.9:", named, found)
	}
}
