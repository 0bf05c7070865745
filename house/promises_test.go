package house

import (
	"math/rand"
	"reflect"
	"slices"
	"strings"
	"testing"

	"passim/api"
	"passim/checker"
	"passim/choose"
	"passim/columns"
	"passim/concord"
	"passim/descent"
	"passim/heading"
	"passim/history"
	"passim/identify"
	"passim/judge"
	"passim/lemma"
	"passim/locator"
	"passim/network"
	"passim/page"
	"passim/policy"
	"passim/printing"
	"passim/question"
	"passim/receipt"
	"passim/redo"
	"passim/refer"
	"passim/reflow"
	"passim/resolve"
	"passim/sign"
	"passim/token"
	"passim/vocabulary"
	"passim/withhold"
	"passim/work"
)

func TestResolve(t *testing.T) {
	each(t, 20, func(r *rand.Rand, _ []api.Event, h *history.History) {
		i, k := r.Intn(h.Editions()), r.Intn(h.Editions())
		from, to := issue(t, h, i), issue(t, h, k)
		s, state := r.Intn(len(from.States)), r.Intn(len(to.States))
		a, _ := printing.Read(from, s)
		b, _ := printing.Read(to, state)
		issued := slices.DeleteFunc(printing.Has(a), func(api.ID) bool { return r.Intn(2) == 0 })
		l, e := locator.Of(from, s, issued)
		if e != api.OK {
			t.Fatal("T1:", e)
		}
		links, _ := h.Links(min(i, k), max(i, k))
		images := func(id api.ID) []api.ID {
			if k < i {
				return descent.Up(links, id)
			}
			return descent.Down(links, id)
		}
		var found, want, explained []api.ID
		for _, one := range l {
			answer, e := resolve.Resolve(h, from, s, to, state, one, nil)
			if e != api.OK {
				t.Fatal("T1:", e)
			}
			for _, f := range answer.Found {
				found = append(found, f.ID)
			}
			for _, x := range answer.Reasons {
				explained = append(explained, x.From)
			}
		}
		for _, id := range issued {
			some := slices.DeleteFunc(images(id), func(x api.ID) bool { return len(printing.Where(b, x)) == 0 })
			want = append(want, some...)
			if (len(some) == 0) != slices.Contains(explained, id) {
				t.Fatal("T1: neither an image nor a reason, or both:", id)
			}
		}
		w, _ := h.Edition(k)
		if !slices.Equal(work.Order(w, found), work.Order(w, want)) {
			t.Fatal("T1:", found, want)
		}
	})
}

func TestScratch(t *testing.T) {
	each(t, 15, func(r *rand.Rand, l []api.Event, h *history.History) {
		r.Shuffle(len(l), func(i, j int) { l[i], l[j] = l[j], l[i] })
		other := play(t, l)
		for k := range h.Editions() {
			c, _ := printing.Read(issue(t, h, k), 0)
			d, _ := printing.Read(issue(t, other, k), 0)
			_, _, p := index(t, judged(t, h, k), c, termsOf(t, h, k))
			_, _, q := index(t, judged(t, other, k), d, termsOf(t, other, k))
			if !reflect.DeepEqual(p, q) {
				t.Fatal("T2:", k)
			}
		}
	})
}

func TestSecret(t *testing.T) {
	r := rand.New(rand.NewSource(3))
	for range 15 {
		tail := random(t, r)
		variant := func(text string) *history.History {
			l := slices.Clone(tail)
			secret := slices.IndexFunc(l, func(e api.Event) bool { return e.Op.Kind == api.OpInsert && e.Kind == api.EvEdit })
			l[secret].Op.Text = text
			id := api.ID{By: l[secret].By, Seq: l[secret].Seq}
			for i := range l {
				// No later event may make another text of the secret one.
				if o := l[i].Op; l[i].Kind == api.EvEdit && (o.Kind == api.OpMerge || o.At == id) {
					l[i].Op = api.Op{Kind: api.OpMove, At: o.At}
				}
			}
			n := 0
			for _, e := range l {
				if e.By == 5 {
					n++
				}
			}
			return play(t, append(l, api.Event{By: 5, Seq: n, Tick: len(l) + 1, Kind: api.EvHold, ID: id, N: 1}))
		}
		a, b := variant("the secret"), variant("quite another and longer secret of rome")
		for k := range a.Editions() {
			if x, y := shown(t, a, k), shown(t, b, k); !reflect.DeepEqual(x, y) {
				t.Fatal("T3:", k)
			}
		}
	}
}

// shown returns all that the public sees of an edition on the day 9.
func shown(t *testing.T, h *history.History, k int) []any {
	w, links, e := withhold.Public(h, k, 9)
	if e != api.OK {
		t.Fatal(e)
	}
	pages, _ := page.Lay(w, style, nil)
	public := withhold.Posts(links, judged(t, h, k))
	terms := withhold.Terms(w, termsOf(t, h, k), public)
	x := printing.Issue{Pages: pages, States: [][]int{nil}}
	c, _ := printing.Read(x, 0)
	entries, refs, laid := index(t, public, c, terms)
	l, _ := locator.Of(x, 0, printing.Has(c))
	held, _ := withhold.Held(h, k, 9)
	leaves, e := receipt.Leaves(h, k, held, entries)
	if e != api.OK {
		t.Fatal(e)
	}
	signed, _ := receipt.Issue(k, leaves, strings.Repeat("s", 32), 0, 0)
	return []any{w, pages, public, terms, refs, laid, l, signed}
}

func TestCoverage(t *testing.T) {
	p, _, e := policy.Load("rule a each term demand post if mentions < 3 rule b each person demand main if tokens < 4 rule c entry term demand see rule d no heading if 1 < locators")
	if e != api.OK {
		t.Fatal(e)
	}
	each(t, 15, func(_ *rand.Rand, _ []api.Event, h *history.History) {
		for k := range h.Editions() {
			w, _ := h.Edition(k)
			terms, l := termsOf(t, h, k), judged(t, h, k)
			c, _ := printing.Read(issue(t, h, k), 0)
			entries, _ := heading.Build(l, c)
			demands, _ := p.Demands(w, terms)
			witness, _ := p.Witness(demands, terms, l)
			breaches, _ := p.Breaches(w, terms, l, heading.Heads(entries))
			if e := p.Check(w, terms, l, heading.Heads(entries), witness); (e == api.OK) != (len(breaches) == 0) {
				t.Fatal("T4:", e, breaches)
			}
		}
	})
}

func TestCopies(t *testing.T) {
	each(t, 15, func(r *rand.Rand, _ []api.Event, h *history.History) {
		x := issue(t, h, 0)
		class, _ := identify.Alike(x, ids(h, 0)[:1])
		asks, tree, cost, e := identify.Plan(x, class)
		table, _, _ := identify.Table(x, asks, class)
		if _, greedy, _ := question.Greedy(table); e != api.OK || cost > greedy {
			t.Fatal("T5:", e)
		}
		if n, e := question.Check(table, tree); n != cost || e != api.OK {
			t.Fatal("T5:", n, cost, e)
		}
		for s := range x.States {
			c, _ := printing.Read(x, s)
			if n, _, e := identify.Find(x, class, c); n != class[s] || e != api.OK {
				t.Fatal("T5:", n, e)
			}
		}
	})
}

func TestPrint(t *testing.T) {
	each(t, 15, func(_ *rand.Rand, _ []api.Event, h *history.History) {
		for k := range h.Editions() {
			x := issue(t, h, k)
			c, _ := printing.Read(x, 0)
			l, _ := locator.Of(x, 0, printing.Has(c))
			for _, one := range l {
				text, e := locator.Print(sheet().Spans, one)
				if back, e2 := locator.Parse(sheet().Spans, text); !locator.Same(back, one) || e != api.OK || e2 != api.OK {
					t.Fatal("T6:", text, e, e2)
				}
			}
			entries, refs, pages := index(t, judged(t, h, k), c, termsOf(t, h, k))
			again, read, e := columns.Read(sheet(), pages)
			if e != api.OK || len(again) != len(entries) || len(read) != len(refs) {
				t.Fatal("T6:", e)
			}
			for _, one := range again {
				if i := heading.Find(entries, one.Path); i < 0 || !heading.Same(entries[i:i+1], []heading.Entry{one}) {
					t.Fatal("T6:", one)
				}
			}
		}
	})
}

func TestAgain(t *testing.T) {
	each(t, 15, func(r *rand.Rand, _ []api.Event, h *history.History) {
		i := r.Intn(h.Editions())
		k := i + r.Intn(h.Editions()-i)
		l, kept, e := redo.Find(h, i, k, ids(h, i))
		if e != api.OK || len(l)+len(kept) != len(ids(h, k)) {
			t.Fatal("T7:", e)
		}
		links, _ := h.Links(i, k)
		for _, x := range l {
			before, after := descent.Up(links, x.ID), []api.ID(nil)
			for _, id := range before {
				after = append(after, descent.Down(links, id)...)
			}
			if len(before) == 1 && len(after) == 1 && basis(t, h, i, before[0]) == basis(t, h, k, x.ID) {
				t.Fatal("T7: nothing changed:", x)
			}
		}
		for _, x := range kept {
			if basis(t, h, i, x.From) != basis(t, h, k, x.ID) {
				t.Fatal("T7: something changed:", x)
			}
		}
	})
}

// basis returns the digest of what a passage of an edition rests on.
func basis(t *testing.T, h *history.History, k int, id api.ID) api.Digest {
	w, _ := h.Edition(k)
	s, _ := work.Find(w, id)
	p, _ := work.At(w, s)
	d, e := redo.Basis(p, termsOf(t, h, k))
	if e != api.OK {
		t.Fatal(e)
	}
	return d
}

func TestWays(t *testing.T) {
	each(t, 15, func(_ *rand.Rand, _ []api.Event, h *history.History) {
		for k := range h.Editions() {
			c, _ := printing.Read(issue(t, h, k), 0)
			terms := termsOf(t, h, k)
			entries, refs, _ := index(t, judged(t, h, k), c, terms)
			for _, to := range heads(entries) {
				for _, x := range terms {
					way, ok := refer.Way(refs, heads(entries), x.Name, to)
					sees := 0
					for n := 1; n < len(way); n++ {
						if slices.Contains(refs, refer.Ref{From: way[n-1], To: way[n]}) {
							sees++
						}
					}
					preferred, _ := vocabulary.Prefer(terms, x.Name)
					if sees > 1 || preferred == to && (!ok || len(way) > 2) || ok != slices.Contains(refer.Reach(refs, heads(entries), x.Name, len(way)-1), to) {
						t.Fatal("T8:", x.Name, to, way, ok)
					}
				}
			}
		}
	})
}

func TestConcordance(t *testing.T) {
	each(t, 15, func(_ *rand.Rand, _ []api.Event, h *history.History) {
		c, e := concord.Make(h.Work(), lemma.Lexicon{}, []string{"a", "the"}, order())
		if e != api.OK {
			t.Fatal("T9:", e)
		}
		hits := map[api.ID]int{}
		for _, x := range c.Hits {
			hits[x.ID]++
		}
		for _, p := range work.All(h.Work()) {
			words := token.Words(p.Text)
			stops := len(slices.DeleteFunc(words, func(s string) bool { return s != "a" && s != "the" }))
			if hits[p.ID]+stops != len(token.Words(p.Text)) {
				t.Fatal("T9:", p, hits[p.ID], stops)
			}
		}
	})
}

func TestFixedPoint(t *testing.T) {
	each(t, 15, func(r *rand.Rand, _ []api.Event, h *history.History) {
		w := h.Work()
		first := work.All(w)
		if len(first) < 2 {
			return
		}
		a := &w.List[0].List[0]
		a.List = append(a.List, api.Passage{ID: api.ID{By: 4, Seq: 63}, Text: "see @ and @", Refs: []api.ID{first[0].ID, first[len(first)-1].ID}})
		b, e := reflow.Make(w, style)
		if e != api.OK || reflow.Check(w, style, b) != api.OK {
			t.Fatal("T10:", e)
		}
		var l []reflow.Demand
		for range 4 {
			l = append(l, reflow.Demand{Kind: r.Intn(4), N: r.Intn(6), ID: first[r.Intn(len(first))].ID})
		}
		core, proof, e := reflow.Core(w, []page.Style{style}, l)
		if _, _, e2 := reflow.Fit(w, []page.Style{style}, l); (e == api.OK) == (e2 == api.OK) || e == api.OK && (len(core) != 1 || reflow.CheckCore(w, []page.Style{style}, l, core, proof) != api.OK) {
			t.Fatal("T10:", core, e, e2)
		}
	})
}

func TestReceipts(t *testing.T) {
	seed := strings.Repeat("s", 32)
	public, _ := sign.Public(seed, 1)
	each(t, 10, func(r *rand.Rand, _ []api.Event, h *history.History) {
		k := r.Intn(h.Editions())
		c, _ := printing.Read(issue(t, h, k), 0)
		entries, _ := heading.Build(judged(t, h, k), c)
		leaves, e := receipt.Leaves(h, k, nil, entries)
		x, e2 := receipt.Issue(k, leaves, seed, 1, r.Intn(2))
		if e != api.OK || e2 != api.OK || receipt.Check(x, public, 1) != api.OK {
			t.Fatal("T11:", e, e2)
		}
		for _, id := range append(ids(h, 0), api.ID{By: 5, Seq: 60}) {
			links, _ := h.Links(0, k)
			p, _ := receipt.Passage(leaves, 0, id)
			got, _, ok, e := receipt.CheckPassage(x, 0, id, p)
			if e != api.OK || ok != slices.Contains(ids(h, 0), id) || !slices.Equal(got, descent.Down(links, id)) {
				t.Fatal("T11:", id, got, ok, e)
			}
		}
		for _, first := range append(heads(entries), "zeno") {
			p, _ := receipt.Heading(leaves, first)
			got, e := receipt.CheckHeading(x, first, p)
			want := slices.DeleteFunc(slices.Clone(entries), func(e heading.Entry) bool { return e.Path[0] != first })
			if e != api.OK || !heading.Same(got, want) {
				t.Fatal("T11:", first, got, e)
			}
		}
	})
}

func TestOneText(t *testing.T) {
	r := rand.New(rand.NewSource(12))
	for range 10 {
		n, _ := network.New(3, 7)
		n.Do(network.Act{Kind: network.Say, Event: api.Event{Kind: api.EvEdit, Op: api.Op{Kind: api.OpVolume}}})
		n.Do(network.Act{Kind: network.Say, Event: api.Event{Kind: api.EvEdit, Op: api.Op{Kind: api.OpArticle, Text: "Odes"}}})
		for range 60 {
			id := api.ID{Seq: 2 + r.Intn(9)}
			e := []api.Event{{Kind: api.EvEdition}, {Kind: api.EvEdit, Op: api.Op{Kind: api.OpInsert, Text: texts()[r.Intn(5)]}}, {Kind: api.EvPost, ID: id, Posts: posts(r, id)}}[r.Intn(3)]
			n.Do(network.Act{Kind: r.Intn(network.Acts), Host: r.Intn(3), N: r.Intn(30), Event: e, Picks: []int{r.Intn(64)}})
		}
		if e := n.Calm(8); e != api.OK {
			t.Fatal("T12:", e)
		}
		var texts [][]byte
		var verdicts [][]api.Post
		for i := range 3 {
			h, e := n.History(i)
			if e != api.OK {
				t.Fatal("T12:", e)
			}
			texts = append(texts, work.Encode(h.Work()))
			if h.Editions() > 0 {
				verdicts = append(verdicts, judged(t, h, h.Editions()-1))
			}
		}
		for i := range texts {
			if !slices.Equal(texts[i], texts[0]) || len(verdicts) > 0 && !judge.SamePosts(verdicts[i], verdicts[0]) {
				t.Fatal("T12:", i)
			}
		}
	}
}

func TestChecked(t *testing.T) {
	seed := strings.Repeat("s", 32)
	public, _ := sign.Public(seed, 0)
	rules := checker.Rules{Style: sheet(), Public: public}
	rules.Style.Page = style
	each(t, 10, func(r *rand.Rand, _ []api.Event, h *history.History) {
		k := r.Intn(h.Editions())
		x, e := checker.Make(h, rules, issue(t, h, k), 0, judged(t, h, k), seed, 0)
		if e != api.OK {
			t.Fatal("T13:", e)
		}
		if n, e := checker.Check(h, rules, x); n != checker.Parts || e != api.OK {
			t.Fatal("T13:", n, e)
		}
		for i, change := range []func(x *checker.Release){
			func(x *checker.Release) { x.Issue.Pages = append(slices.Clone(x.Issue.Pages), page.Page{}) }, func(x *checker.Release) { x.Posts = append(slices.Clone(x.Posts), api.Post{}) }, func(x *checker.Release) {
				x.Index = append(slices.Clone(x.Index), heading.Entry{Path: []string{"zeno"}})
			},
			func(x *checker.Release) { x.Refs = append(slices.Clone(x.Refs), refer.Ref{}) }, func(x *checker.Release) { x.Pages = append(slices.Clone(x.Pages), columns.Page{}) }, func(x *checker.Release) { x.Receipt.Root[3]++ }} {
			y := x
			change(&y)
			if n, e := checker.Check(h, rules, y); n != i || e != api.ErrProof {
				t.Fatal("T13:", i, n, e)
			}
		}
	})
}

func TestChoice(t *testing.T) {
	r := rand.New(rand.NewSource(14))
	for range 200 {
		c := choose.Case{Room: r.Intn(40)}
		for range 1 + r.Intn(8) {
			var l []choose.Option
			for range 1 + r.Intn(4) {
				l = append(l, choose.Option{Lines: r.Intn(9), Turns: r.Intn(9)})
			}
			c.Items, c.Weights = append(c.Items, l), append(c.Weights, r.Intn(9))
		}
		best, turns, e := choose.Best(c)
		if e != api.OK {
			continue
		}
		p, _ := choose.Dual(c)
		if n, least, e := choose.Check(c, best, p); n != turns || least > n || e != api.OK {
			t.Fatal("T14:", c, n, least, e)
		}
		quick, _, _ := choose.Greedy(c)
		if n, least, e := choose.Check(c, quick, p); least > n || n < turns || e != api.OK {
			t.Fatal("T14:", c, n, least, e)
		}
	}
}
