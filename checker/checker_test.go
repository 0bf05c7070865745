package checker

import (
	"reflect"
	"slices"
	"strings"
	"testing"

	"passim/api"
	"passim/columns"
	"passim/hash"
	"passim/heading"
	"passim/history"
	"passim/page"
	"passim/printing"
	"passim/receipt"
	"passim/refer"
	"passim/sign"
	"passim/span"
	"passim/wire"
)

var (
	seed = strings.Repeat("odes", 8)
	a    = api.ID{Seq: 2}
)

func op(o api.Op) api.Event { return api.Event{Kind: api.EvEdit, Op: o} }

func play(t *testing.T, l ...api.Event) *history.History {
	for i := range l {
		l[i].Seq, l[i].Tick = i, i+1
	}
	h, n, e := history.Play(l)
	if e != api.OK {
		t.Fatal(n, e)
	}
	return h
}

func example(t *testing.T, terms ...api.Term) *history.History {
	l := []api.Event{op(api.Op{Kind: api.OpVolume}), op(api.Op{Kind: api.OpArticle, Text: "Odes"}), op(api.Op{Kind: api.OpInsert, Text: "the king"})}
	for _, x := range terms {
		l = append(l, api.Event{Kind: api.EvTerm, Term: x})
	}
	l = append(l, api.Event{Kind: api.EvEdition}, op(api.Op{Kind: api.OpSplit, At: a, N: 1}), api.Event{Kind: api.EvEdition})
	return play(t, l...)
}

func rules(t *testing.T) Rules {
	r := Rules{Style: columns.Style{Page: page.Style{Width: 40, Height: 12}, Columns: 1, Spans: span.Style{Keep: 2}}, Height: 1}
	for c := byte('a'); c <= 'z'; c++ {
		r.Style.Order.Order = append(r.Style.Order.Order, string([]byte{c, c - 32}))
	}
	var e api.Errno
	if r.Public, e = sign.Public(seed, 1); e != api.OK {
		t.Fatal(e)
	}
	return r
}

func issue(t *testing.T, h *history.History, r Rules, k int) printing.Issue {
	w, _ := h.Edition(k)
	pages, e := page.Lay(w, r.Style.Page, nil)
	if e != api.OK {
		t.Fatal(e)
	}
	return printing.Issue{Edition: k, Pages: pages, States: [][]int{nil}}
}

func king() []api.Post { return []api.Post{{ID: a, Path: []string{"king"}, Main: true}} }

func release(t *testing.T, h *history.History, r Rules, posts []api.Post) Release {
	x, e := Make(h, r, issue(t, h, r, 0), 0, posts, seed, 1)
	if e != api.OK {
		t.Fatal("P45.2:", e)
	}
	return x
}

func TestExample(t *testing.T) {
	h, r := example(t), rules(t)
	x := release(t, h, r, king())
	if len(x.Index) != 1 || !reflect.DeepEqual(columns.Print(x.Pages), []string{"king @ 1* 1\n"}) || x.Edition != 0 || x.Receipt.Edition != 0 {
		t.Error("P45.2:", x.Index, x.Pages)
	}
	if n, e := Check(h, r, x); n != Parts || e != api.OK {
		t.Error("P45.1, P45.4:", n, e)
	}
	for i, c := range []struct {
		change func(x *Release)
		part   int
	}{
		{func(x *Release) { x.State = 1 }, Text}, {func(x *Release) { x.Posts = nil }, Entries}, {func(x *Release) { x.Edition = 1 }, Text}, {func(x *Release) { x.Edition, x.Issue.Edition = 1, 1 }, Text}, {func(x *Release) { x.Edition, x.Issue.Edition = 2, 2 }, Text}, {func(x *Release) { x.Issue.Pages = nil }, Text}, {func(x *Release) { x.Issue.States = nil }, Text},
		{func(x *Release) { x.Posts = append(x.Posts, x.Posts[0]) }, Postings}, {func(x *Release) { x.Posts = []api.Post{{ID: api.ID{Seq: 50}, Path: []string{"king"}}} }, Postings}, {func(x *Release) { x.Posts = []api.Post{{ID: a}} }, Postings}, {func(x *Release) { x.Witness = []int{0} }, Postings}, {func(x *Release) { x.Index = nil }, Entries}, {func(x *Release) { x.Index = append(x.Index, heading.Entry{}) }, Entries},
		{func(x *Release) { x.Refs = []refer.Ref{{From: "x", To: "king"}} }, Links}, {func(x *Release) { x.Pages = nil }, Setting}, {func(x *Release) { x.Pages = []columns.Page{{}} }, Setting}, {func(x *Release) { x.Receipt.Edition = 1 }, Signed}, {func(x *Release) { x.Receipt.Root[0]++ }, Signed}, {func(x *Release) { x.Receipt.Signature = "" }, Signed},
	} {
		y := x
		y.Issue = own(x.Issue)
		c.change(&y)
		if n, e := Check(h, r, y); n != c.part || e != api.ErrProof {
			t.Error("P45.1, P45.6:", i, n, e)
		}
	}
}

func TestRules(t *testing.T) {
	h, r := example(t), rules(t)
	x := release(t, h, r, king())
	for i, change := range []func(r *Rules){func(r *Rules) { r.Policy = "let" }, func(r *Rules) { r.Policy = "let a = b" }, func(r *Rules) { r.Style.Columns = 0 }, func(r *Rules) { r.Height = 7 }, func(r *Rules) { r.Height = -1 }} {
		s := r
		change(&s)
		n, e := Check(h, s, x)
		y, e2 := Make(h, s, x.Issue, 0, nil, "", 0)
		if n != 0 || e != api.ErrArg || e2 != e || !reflect.DeepEqual(y, Release{}) {
			t.Error("P45.1, P45.2:", i, n, e, e2)
		}
	}
	_, e := Check(nil, r, x)
	_, e2 := Make(nil, r, x.Issue, 0, nil, seed, 0)
	if e != api.ErrArg || e2 != e {
		t.Error("P45.1, P45.2: a nil history:", e, e2)
	}
	strict := r
	strict.Policy = "rule a no heading if level = 1"
	if n, e := Check(h, strict, x); n != Postings || e != api.ErrProof {
		t.Error("P45.1:", n, e)
	}
}

func TestMake(t *testing.T) {
	r := rules(t)
	strict := r
	strict.Policy = "rule a no heading if level = 1"
	h := example(t)
	good := issue(t, h, r, 0)
	bad := own(good)
	bad.Pages[0].Lines[0].Text = "x"
	cyclic := example(t, api.Term{Name: "a", Broader: []string{"a"}})
	var many []api.Post
	for i := range 300 {
		many = append(many, api.Post{ID: a, Path: []string{string([]byte{'a' + byte(i/20), 'a' + byte(i%20)})}})
	}
	wide := []api.Post{{ID: a, Path: []string{strings.Repeat("x", 24)}}}
	narrow := r
	narrow.Style.Page.Width = 30
	for i, x := range []struct {
		h     *history.History
		r     Rules
		x     printing.Issue
		state int
		posts []api.Post
		seed  string
		index int
		e     api.Errno
	}{
		{h, r, bad, 0, make([]api.Post, 1), "", 0, api.ErrSign}, {h, r, bad, 0, make([]api.Post, 1), strings.Repeat("s", 32), 0, api.ErrSign}, {h, r, bad, 0, make([]api.Post, 1), seed, 0, api.ErrDiffer}, {h, r, good, 1, make([]api.Post, 1), seed, 0, api.ErrDiffer}, {h, r, good, 0, make([]api.Post, 1), seed, 0, api.ErrArg}, {h, r, good, 0, make([]api.Post, 1001), seed, 0, api.ErrLimit},
		{h, r, good, 0, append(slices.Clone(many), api.Post{Path: []string{"x"}}), seed, 0, api.ErrNone}, {cyclic, r, issue(t, cyclic, r, 0), 0, many, seed, 0, api.ErrLimit}, {cyclic, strict, issue(t, cyclic, r, 0), 0, king(), seed, 0, api.ErrCycle}, {h, strict, good, 0, king(), seed, 0, api.ErrRule}, {h, narrow, issue(t, h, narrow, 0), 0, wide, seed, 9, api.ErrWide}, {h, r, good, 0, king(), seed, 2, api.ErrSpent}, {h, r, good, 0, nil, seed, 0, api.OK},
	} {
		y, e := Make(x.h, x.r, x.x, x.state, x.posts, x.seed, x.index)
		if e != x.e || e != api.OK && !reflect.DeepEqual(y, Release{}) {
			t.Error("P45.2:", i, e)
		}
	}
}

func TestWhole(t *testing.T) {
	h := example(t, api.Term{Name: "king", Kind: 2, Broader: []string{"ruler"}}, api.Term{Name: "prince", See: "ruler"}, api.Term{Name: "ruler", Kind: 2})
	r := rules(t)
	r.Policy = "rule a each subject demand main rule b entry subject demand see"
	posts := []api.Post{{ID: a, Path: []string{"ruler"}}, {ID: a, Path: []string{"king", "of ode"}, Main: true}, {ID: a, Path: []string{"king"}, Main: true}}
	x := release(t, h, r, posts)
	if n, e := Check(h, r, x); n != Parts || e != api.OK || !slices.Equal(x.Refs, []refer.Ref{{From: "prince", To: "ruler"}, {From: "ruler", To: "king", Also: true}}) || !slices.Equal(x.Witness, []int{0}) {
		t.Error("P45.4:", n, e, x.Refs, x.Witness)
	}
	slices.Reverse(posts)
	if y := release(t, h, r, append(posts, posts...)); !reflect.DeepEqual(x, y) {
		t.Error("P45.7")
	}
	other, _ := Make(h, r, x.Issue, 0, posts, seed, 0)
	if n, e := Check(h, r, other); n != Parts || e != api.OK || reflect.DeepEqual(other, x) {
		t.Error("P45.5: another key:", n, e)
	}
	other.Receipt.Signature = x.Receipt.Signature
	if !reflect.DeepEqual(other, x) {
		t.Error("P45.5")
	}
	z := own(x.Issue)
	y, _ := Make(h, r, z, 0, posts, seed, 0)
	y.Issue.Pages[0].Lines[0].Text, y.Posts[0].Path[0] = "changed", "changed"
	if z.Pages[0].Lines[0].Text == "changed" || slices.Contains(posts[0].Path, "changed") {
		t.Error("P45.2: memory is shared")
	}
}

func TestBytes(t *testing.T) {
	id := api.ID{By: 1, Seq: 2, K: 3}
	pages := []page.Page{{Volume: 1, Number: 1, Lines: []page.Line{{ID: id, To: 1, Text: "x"}}}}
	full := func() Release {
		return Release{Edition: 4, State: 5, Issue: printing.Issue{Edition: 6, Pages: slices.Clone(pages), Changes: []printing.Change{{Kind: 1, Volume: 2, At: 3, Pages: pages}}, States: [][]int{nil, {0}}},
			Posts: []api.Post{{ID: id, Path: []string{"a"}, Main: true}}, Witness: []int{7}, Index: []heading.Entry{{Path: []string{"b"}}}, Refs: []refer.Ref{{From: "c", To: "d", Also: true}},
			Pages: []columns.Page{{Columns: [][]columns.Line{{{Level: 8, Of: 9, Text: "e"}}}}}, Receipt: receipt.Receipt{Edition: 10, Root: api.Digest{11}, Signature: "f"}}
	}
	want := slices.Concat(wire.Ints([]int{4, 5}), wire.Int(6), page.Encode(pages), wire.Int(1), wire.Ints([]int{1, 2, 3}), page.Encode(pages), wire.Int(2), wire.Ints(nil), wire.Ints([]int{0}), wire.Int(1), wire.Ints([]int{1, 2, 3, 1}), wire.Strings([]string{"a"}), wire.Ints([]int{7}),
		heading.Encode(full().Index), wire.Int(1), wire.Strings([]string{"c", "d"}), wire.Int(1), wire.Int(1), wire.Int(1), wire.Int(1), wire.Ints([]int{8, 9}), wire.Bytes("e"), wire.Int(10), wire.Digests([]api.Digest{{11}}), wire.Bytes("f"))
	b := Encode(full())
	if !slices.Equal(b, want) || Digest(full()) != hash.Of(api.TagIndex, string(b)) {
		t.Error("P45.3")
	}
	seen := map[string]int{string(b): -1}
	for i, change := range []func(x *Release){func(x *Release) { x.Edition++ }, func(x *Release) { x.State++ }, func(x *Release) { x.Issue.Edition++ }, func(x *Release) { x.Issue.Pages = nil }, func(x *Release) { x.Issue.Changes[0].At++ }, func(x *Release) { x.Issue.States = nil }, func(x *Release) { x.Posts[0].Main = false }, func(x *Release) { x.Posts[0].Path = nil }, func(x *Release) { x.Posts[0].ID.K++ },
		func(x *Release) { x.Witness = nil }, func(x *Release) { x.Index = nil }, func(x *Release) { x.Refs[0].Also = false }, func(x *Release) { x.Refs[0].To = "" }, func(x *Release) { x.Pages[0].Columns[0][0].Of++ }, func(x *Release) { x.Pages[0].Columns = nil }, func(x *Release) { x.Receipt.Edition++ }, func(x *Release) { x.Receipt.Root[0]++ }, func(x *Release) { x.Receipt.Signature = "" }} {
		x := full()
		change(&x)
		s := string(Encode(x))
		if k, ok := seen[s]; ok {
			t.Error("P45.8:", i, k)
		}
		seen[s] = i
	}
}
