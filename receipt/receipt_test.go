package receipt

import (
	"math/rand"
	"reflect"
	"slices"
	"strings"
	"testing"

	"passim/api"
	"passim/descent"
	"passim/heading"
	"passim/history"
	"passim/merkle"
	"passim/sign"
	"passim/span"
	"passim/wire"
	"passim/work"
)

var (
	seed = strings.Repeat("s", 32)
	a, b = api.ID{Seq: 2}, api.ID{Seq: 4}
	king = heading.Entry{Path: []string{"king"}, Rows: []heading.Row{{Main: true, List: []span.Span{{From: 1, To: 1}}}}}
)

func op(o api.Op) api.Event { return api.Event{Kind: api.EvEdit, Op: o} }

func play(t *testing.T, l ...api.Event) *history.History {
	for i := range l {
		l[i].Seq, l[i].Tick = i, i+1
	}
	h, n, e := history.Play(l)
	if e != api.OK {
		t.Fatal(n, e)
	}
	return h
}

func example(t *testing.T) *history.History {
	return play(t, op(api.Op{Kind: api.OpVolume}), op(api.Op{Kind: api.OpArticle, Text: "Odes"}), op(api.Op{Kind: api.OpInsert, Text: "the king"}), api.Event{Kind: api.EvEdition},
		op(api.Op{Kind: api.OpSplit, At: a, N: 1}), op(api.Op{Kind: api.OpDelete, At: api.ID{Seq: 4, K: 1}}), api.Event{Kind: api.EvEdition})
}

func ints(l ...int) string { return string(wire.Ints(l)) }

func leaves(t *testing.T, h *history.History, k int, held []api.ID, index ...heading.Entry) []merkle.Leaf {
	l, e := Leaves(h, k, held, index)
	if e != api.OK {
		t.Fatal("P41.1:", e)
	}
	return l
}

func receiptOf(l []merkle.Leaf) Receipt {
	root, _ := merkle.Root(l)
	return Receipt{Root: root}
}

func TestExample(t *testing.T) {
	h := example(t)
	l := leaves(t, h, 1, nil, king)
	if want := []merkle.Leaf{{Key: "h/king", Value: string(heading.Encode([]heading.Entry{king}))}, {Key: "p/0/0.2.0", Value: ints(1, 0, 4, 0)}, {Key: "p/1/0.4.0", Value: ints(1, 0, 4, 0)}}; !slices.Equal(l, want) {
		t.Error("P41.1:", l)
	}
	if l := leaves(t, h, 1, []api.ID{b}, king); len(l) != 2 || l[1] != (merkle.Leaf{Key: "p/0/0.2.0", Value: ints(0, 0, 4)}) {
		t.Error("P41.1:", l)
	}
	if l := leaves(t, h, 0, nil); len(l) != 1 || l[0].Value != ints(1, 0, 2, 0) {
		t.Error("P41.1:", l)
	}
	r := receiptOf(l)
	p, e := Passage(l, 0, a)
	if ids, n, ok, e2 := CheckPassage(r, 0, a, p); !slices.Equal(ids, []api.ID{b}) || n != (api.Name{}) || !ok || e != api.OK || e2 != api.OK {
		t.Error("P41.5:", ids, n, ok, e, e2)
	}
	p, _ = Passage(l, 0, b)
	if ids, n, ok, e := CheckPassage(r, 0, b, p); len(ids) > 0 || n != (api.Name{}) || ok || e != api.OK {
		t.Error("P41.5:", ids, n, ok, e)
	}
	if _, _, _, e := CheckPassage(r, -1, a, p); e != api.ErrProof {
		t.Error("P41.5:", e)
	}
	for first, want := range map[string][]heading.Entry{"king": {king}, "ode": nil} {
		p, e := Heading(l, first)
		if got, e2 := CheckHeading(r, first, p); !heading.Same(got, want) || e != api.OK || e2 != api.OK {
			t.Error("P41.6:", first, got, e, e2)
		}
	}
	if _, e := CheckHeading(r, "king", merkle.Proof{}); e != api.ErrProof {
		t.Error("P41.6:", e)
	}
}

func TestIssue(t *testing.T) {
	l := leaves(t, example(t), 1, nil, king)
	public, _ := sign.Public(seed, 1)
	r, e := Issue(1, l, seed, 1, 1)
	root, _ := merkle.Root(l)
	want, _ := sign.Sign(seed, 1, 1, string(wire.Int(1))+string(root[:]))
	if r != (Receipt{1, root, want}) || e != api.OK || Check(r, public, 1) != api.OK {
		t.Error("P41.2, P41.3:", e)
	}
	wrong := []merkle.Leaf{{Key: "b"}, {Key: "a"}}
	for i, x := range []struct {
		k             int
		l             []merkle.Leaf
		seed          string
		height, index int
		e             api.Errno
	}{{-1, wrong, "", 0, 0, api.ErrRange}, {16, wrong, "", 0, 0, api.ErrRange}, {15, wrong, "", 0, 0, api.ErrArg}, {0, l, "", 0, 0, api.ErrArg}, {0, l, seed, 1, 2, api.ErrSpent}, {15, l, seed, 0, 0, api.OK}} {
		if r, e := Issue(x.k, x.l, x.seed, x.height, x.index); e != x.e || e != api.OK && r != (Receipt{}) {
			t.Error("P41.2:", i, e)
		}
	}
	for i, x := range []struct {
		change func(r *Receipt)
		height int
		e      api.Errno
	}{{func(r *Receipt) { r.Edition = 16 }, 9, api.ErrRange}, {func(r *Receipt) { r.Edition = -1 }, 1, api.ErrRange}, {func(r *Receipt) {}, 9, api.ErrArg}, {func(r *Receipt) { r.Edition = 0 }, 1, api.ErrSign}, {func(r *Receipt) { r.Root[0]++ }, 1, api.ErrSign}, {func(r *Receipt) { r.Signature = "" }, 1, api.ErrMore}, {func(r *Receipt) { r.Signature += "x" }, 1, api.ErrForm}} {
		s := r
		x.change(&s)
		if e := Check(s, public, x.height); e != x.e {
			t.Error("P41.3:", i, e)
		}
	}
}

func TestErrors(t *testing.T) {
	h := example(t)
	for i, x := range []struct {
		h     *history.History
		k     int
		index []heading.Entry
		e     api.Errno
	}{{h, 2, make([]heading.Entry, 1), api.ErrNone}, {h, -1, nil, api.ErrNone}, {nil, 0, nil, api.ErrNone}, {h, 1, make([]heading.Entry, 1), api.ErrArg}, {h, 1, []heading.Entry{{Path: []string{strings.Repeat("x", 1<<16)}}}, api.ErrLimit}} {
		if l, e := Leaves(x.h, x.k, nil, x.index); len(l) > 0 || e != x.e {
			t.Error("P41.1:", i, e)
		}
	}
	wrong := []merkle.Leaf{{Key: "b"}, {Key: "a"}}
	_, e := Passage(wrong, 0, a)
	_, e2 := Heading(wrong, "x")
	if e != api.ErrArg || e2 != api.ErrArg {
		t.Error("P41.4:", e, e2)
	}
	for i, x := range []struct {
		value string
		e     api.Errno
	}{{ints(1, 2, 3, 4), api.OK}, {ints(1, 2, 3, 4, 5, 6, 7), api.OK}, {ints(0, 5, 6), api.OK}, {ints(0, -1, 0), api.OK}, {"", api.ErrForm}, {ints(), api.ErrForm}, {ints(1), api.ErrForm}, {ints(1, 2, 3), api.ErrForm}, {ints(0, 1), api.ErrForm}, {ints(0, 1, 2, 3), api.ErrForm}, {ints(2, 1, 2, 3), api.ErrForm}, {ints(0, 5, 6) + "x", api.ErrForm}, {ints(1, 2, 3, 4)[:3], api.ErrForm}} {
		l := []merkle.Leaf{{Key: "p/-1/-2.3.4", Value: x.value}}
		id := api.ID{By: -2, Seq: 3, K: 4}
		p, _ := Passage(l, -1, id)
		if ids, n, ok, e := CheckPassage(receiptOf(l), -1, id, p); e != x.e || ok != (e == api.OK) || e != api.OK && (len(ids) > 0 || n != api.Name{}) {
			t.Error("P41.5:", i, ids, n, ok, e)
		}
	}
	good := string(heading.Encode([]heading.Entry{king, {Path: []string{"king", "ode"}}}))
	for i, x := range []struct {
		value string
		e     api.Errno
	}{{good, api.OK}, {good + "x", api.ErrForm}, {good[:len(good)-1], api.ErrForm}, {string(heading.Encode(nil)), api.ErrForm}, {"", api.ErrForm}, {string(heading.Encode([]heading.Entry{{}})), api.ErrForm}, {string(heading.Encode([]heading.Entry{{Path: []string{"ode"}}})), api.ErrForm}, {string(wire.Int(-1)), api.ErrForm}, {string(wire.Int(1 << 60)), api.ErrForm},
		{string(slices.Concat(wire.Int(1), wire.Strings([]string{"king"}), wire.Int(1), wire.Ints([]int{0, 2}))), api.ErrForm}, {string(slices.Concat(wire.Int(1), wire.Strings([]string{"king"}), wire.Int(1), wire.Ints([]int{0}))), api.ErrForm}, {string(slices.Concat(wire.Int(1), wire.Strings([]string{"king"}), wire.Int(1), wire.Ints([]int{0, 0, 5}))), api.ErrForm},
		{string(slices.Concat(wire.Int(1), wire.Strings([]string{"king"}), wire.Int(-1))), api.ErrForm}} {
		l := []merkle.Leaf{{Key: "h/king", Value: x.value}}
		p, _ := Heading(l, "king")
		if got, e := CheckHeading(receiptOf(l), "king", p); e != x.e || (len(got) > 0) != (e == api.OK) {
			t.Error("P41.6:", i, got, e)
		}
	}
}

func random(t *testing.T, r *rand.Rand) []api.Event {
	l := []api.Event{op(api.Op{Kind: api.OpVolume}), op(api.Op{Kind: api.OpArticle, Text: "x"}), op(api.Op{Kind: api.OpInsert, Text: "a b c"}), {Kind: api.EvEdition}}
	for len(l) < 30 {
		at := api.ID{Seq: 2}
		if all := work.All(play(t, slices.Clone(l)...).Work()); len(all) > 0 {
			at = all[r.Intn(len(all))].ID
		}
		l = append(l, []api.Event{{Kind: api.EvEdition}, op(api.Op{Kind: api.OpInsert, Text: "d e"}), op(api.Op{Kind: api.OpSplit, At: at, N: 1}), op(api.Op{Kind: api.OpMerge, At: at}), op(api.Op{Kind: api.OpDelete, At: at})}[r.Intn(5)])
	}
	return l
}

func TestProperties(t *testing.T) {
	r := rand.New(rand.NewSource(1))
	for range 15 {
		events := random(t, r)
		h := play(t, events...)
		k := r.Intn(h.Editions())
		var held []api.ID
		for _, p := range work.All(h.Work()) {
			if r.Intn(4) == 0 {
				held = append(held, p.ID)
			}
		}
		l := leaves(t, h, k, held, king)
		slices.Reverse(events)
		again, _, _ := history.Play(events)
		if !slices.Equal(leaves(t, again, k, held, king), l) {
			t.Fatal("P41.9")
		}
		root := receiptOf(l)
		plain := leaves(t, h, k, nil)
		for i := range k + 1 {
			w, _ := h.Edition(i)
			links, _ := h.Links(i, k)
			for _, p := range work.All(w) {
				proof, _ := Passage(l, i, p.ID)
				ids, name, ok, e := CheckPassage(root, i, p.ID, proof)
				down := descent.Down(links, p.ID)
				remains := slices.DeleteFunc(slices.Clone(down), func(id api.ID) bool { return slices.Contains(held, id) })
				cause, _ := h.Cause(p.ID)
				if e != api.OK || ok == slices.Contains(held, p.ID) || ok && (!slices.Equal(ids, remains) || len(remains) == 0 && name != cause && name.By >= 0) {
					t.Fatal("P41.7:", i, p.ID, ids, name, ok, e)
				}
				if slices.ContainsFunc(ids, func(id api.ID) bool { return slices.Contains(held, id) }) {
					t.Fatal("P41.10:", ids)
				}
				if ok && len(remains) == len(down) {
					key := passageKey(i, p.ID)
					same := func(x merkle.Leaf) bool { return x.Key == key }
					if plain[slices.IndexFunc(plain, same)] != l[slices.IndexFunc(l, same)] {
						t.Fatal("P41.10:", key)
					}
				}
				forged := merkle.Proof{First: proof.First, Size: proof.Size, Leaves: slices.Clone(proof.Leaves), Sides: slices.Clone(proof.Sides)}
				forged.Leaves[0].Value = ints(1, 5, 5, 5)
				if _, _, _, e := CheckPassage(root, i, p.ID, forged); e != api.ErrProof && !reflect.DeepEqual(forged, proof) {
					t.Fatal("P41.8:", e)
				}
			}
		}
	}
}
