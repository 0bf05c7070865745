// Package house tests the promises T1 to T14 of ../shared/DOC.md, each of which needs several layers.
package house

import (
	"math/rand"
	"slices"
	"testing"

	"passim/api"
	"passim/collate"
	"passim/columns"
	"passim/heading"
	"passim/history"
	"passim/judge"
	"passim/page"
	"passim/printing"
	"passim/refer"
	"passim/span"
	"passim/vocabulary"
	"passim/work"
)

var style = page.Style{Width: 24, Height: 5}

// diary collects events with numbers and ticks.
type diary struct {
	l     []api.Event
	count [api.MaxAuthors]int
}

func (d *diary) add(by int, e api.Event) {
	e.By, e.Seq, e.Tick = by, d.count[by], len(d.l)+1
	d.count[by]++
	d.l = append(d.l, e)
}

func (d *diary) edit(by int, o api.Op) { d.add(by, api.Event{Kind: api.EvEdit, Op: o}) }

func play(t *testing.T, l []api.Event) *history.History {
	t.Helper()
	h, n, e := history.Play(l)
	if e != api.OK {
		t.Fatal(n, e)
	}
	return h
}

// texts are what passages may say.
func texts() []string {
	return []string{"the king of rome", "anna sings an ode", "a lyre", "Rome. The king sings!", "emperor anna"}
}

// begin returns a diary with a vocabulary and a first edition.
func begin(r *rand.Rand) *diary {
	d := &diary{}
	for _, x := range []api.Term{{Name: "anna"}, {Name: "emperor", See: "king"}, {Name: "king", Broader: []string{"ruler"}}, {Name: "ode", Kind: api.Subject}, {Name: "rome", Kind: api.Place}, {Name: "ruler"}} {
		d.add(5, api.Event{Kind: api.EvTerm, Term: x})
	}
	d.edit(0, api.Op{Kind: api.OpVolume})
	d.edit(0, api.Op{Kind: api.OpArticle, Text: "Odes"})
	d.edit(0, api.Op{Kind: api.OpArticle, Text: "Songs"})
	for range 4 {
		d.edit(0, api.Op{Kind: api.OpInsert, Spot: api.Spot{Article: r.Intn(2)}, Text: texts()[r.Intn(5)]})
	}
	d.add(0, api.Event{Kind: api.EvEdition})
	return d
}

// some returns the ID of a passage of the work.
func some(t *testing.T, r *rand.Rand, d *diary) api.ID {
	all := work.All(play(t, d.l).Work())
	if len(all) == 0 {
		return api.ID{}
	}
	return all[r.Intn(len(all))].ID
}

// random returns events of editors, indexers and adjudicators that lead to some editions.
func random(t *testing.T, r *rand.Rand) []api.Event {
	d := begin(r)
	for range 30 {
		id := some(t, r, d)
		switch r.Intn(10) {
		case 0:
			d.edit(0, api.Op{Kind: api.OpInsert, Spot: api.Spot{Article: r.Intn(2)}, Text: texts()[r.Intn(5)]})
		case 1:
			d.edit(3, api.Op{Kind: api.OpSplit, At: id, N: 1})
		case 2:
			d.edit(3, api.Op{Kind: api.OpMerge, At: id})
		case 3:
			d.edit(0, api.Op{Kind: api.OpDelete, At: id})
		case 4:
			d.edit(3, api.Op{Kind: api.OpRewrite, At: id, N: 1, Texts: []string{texts()[r.Intn(5)]}, Pairs: [][2]int{{0, 0}}})
		case 5:
			d.add(0, api.Event{Kind: api.EvEdition})
		case 6:
			d.add(4, api.Event{Kind: api.EvSettle, ID: id, Posts: posts(r, id)})
		case 7:
			d.add(5, api.Event{Kind: api.EvHold, ID: id, N: r.Intn(5)})
		default:
			l := posts(r, id)
			d.add(1, api.Event{Kind: api.EvPost, ID: id, Posts: l})
			d.add(2, api.Event{Kind: api.EvPost, ID: id, Posts: l})
		}
	}
	d.add(0, api.Event{Kind: api.EvEdition})
	return d.l
}

func posts(r *rand.Rand, id api.ID) []api.Post {
	return []api.Post{{ID: id, Main: r.Intn(2) == 0, Path: [][]string{{"anna"}, {"king"}, {"king", "ode"}, {"rome"}, {"ruler"}}[r.Intn(5)]}}
}

// issue returns a printing of an edition with a state without its first leaf.
func issue(t *testing.T, h *history.History, k int) printing.Issue {
	w, _ := h.Edition(k)
	pages, e := page.Lay(w, style, nil)
	if e != api.OK {
		t.Fatal(e)
	}
	x := printing.Issue{Edition: k, Pages: pages, States: [][]int{nil}}
	if len(pages) > 0 {
		x.Changes, x.States = []printing.Change{{Kind: printing.Lose, At: 1}}, append(x.States, []int{0})
	}
	return x
}

// ids returns the IDs of the passages of an edition.
func ids(h *history.History, k int) []api.ID {
	var l []api.ID
	w, _ := h.Edition(k)
	for _, p := range work.All(w) {
		l = append(l, p.ID)
	}
	return l
}

// judged returns the postings that count for an edition.
func judged(t *testing.T, h *history.History, k int) []api.Post {
	l := ids(h, k)
	v, e := judge.Outcome(h.Events(), l, slices.Repeat([][2]int{{1, 2}}, len(l)))
	if e != api.OK {
		t.Fatal(e)
	}
	return judge.Posts(v)
}

// index returns the entries, the references and the pages of the index of a copy.
func index(t *testing.T, posts []api.Post, c printing.Copy, terms []api.Term) ([]heading.Entry, []refer.Ref, []columns.Page) {
	entries, e := heading.Build(posts, c)
	if e != api.OK {
		t.Fatal(e)
	}
	refs := refer.Of(terms, heads(entries))
	pages, e := columns.Lay(sheet(), entries, refs)
	if e != api.OK {
		t.Fatal(e)
	}
	return entries, refs, pages
}

// heads returns the headings of entries.
func heads(l []heading.Entry) []string {
	var all []string
	for _, e := range l {
		if len(e.Path) == 1 {
			all = append(all, e.Path[0])
		}
	}
	return all
}

// sheet returns the style of an index.
func sheet() columns.Style {
	return columns.Style{Page: page.Style{Width: 24, Height: 6}, Columns: 2, Spans: span.Style{Keep: 2}, Order: order()}
}

func order() collate.Spec {
	s := collate.Spec{}
	for c := byte('a'); c <= 'z'; c++ {
		s.Order = append(s.Order, string([]byte{c, c - 32}))
	}
	return s
}

// termsOf returns the vocabulary of an edition.
func termsOf(t *testing.T, h *history.History, k int) []api.Term {
	terms, e := h.Terms(k)
	if _, e2 := vocabulary.Valid(terms); e != api.OK || e2 != api.OK {
		t.Fatal(e, e2)
	}
	return terms
}

// each calls a test for several random histories.
func each(t *testing.T, n int, test func(r *rand.Rand, l []api.Event, h *history.History)) {
	r := rand.New(rand.NewSource(int64(n)))
	for range n {
		l := random(t, r)
		test(r, l, play(t, l))
	}
}
