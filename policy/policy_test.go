package policy

import (
	"math/rand"
	"reflect"
	"slices"
	"strings"
	"testing"

	"passim/api"
	"passim/hash"
	"passim/syntax"
	"passim/vocabulary"
	"passim/work"
)

const source = "let few = 1 rule twice each person demand main if few < mentions rule short no heading if 6 < locators rule found entry subject demand heading"

var a, b = api.ID{}, api.ID{Seq: 1}

func passages(l ...api.Passage) api.Work {
	return api.Work{List: []api.Volume{{List: []api.Article{{Title: "x", List: l}}}}}
}

func load(t *testing.T, s string) *Policy {
	p, n, e := Load(s)
	if p == nil || n != 0 || e != api.OK {
		t.Fatal("P27.1:", s, n, e)
	}
	return p
}

func post(id api.ID, main bool, path ...string) api.Post {
	return api.Post{ID: id, Main: main, Path: path}
}

var (
	text  = passages(api.Passage{ID: a, Text: "Anna, king. Of Anna."})
	terms = []api.Term{{Name: "anna"}, {Name: "king", Kind: api.Subject}}
)

func TestExample(t *testing.T) {
	p := load(t, source)
	l, e := p.Demands(text, terms)
	if want := []Demand{{1, "main", a, "anna"}, {3, "heading", a, "king"}}; !slices.Equal(l, want) || e != api.OK {
		t.Error("P27.3:", l, e)
	}
	posts := []api.Post{post(a, false, "anna"), post(a, false, "king")}
	if w, e := p.Witness(l, terms, posts); !slices.Equal(w, []int{-1, 1}) || e != api.OK {
		t.Error("P27.4:", w, e)
	}
	heads := []Head{{Path: []string{"anna"}, Level: 1, Locators: 7}}
	if x, e := p.Breaches(text, terms, posts, heads); !reflect.DeepEqual(x, []Breach{{l[0], nil}, {Demand{Rule: 2}, []string{"anna"}}}) || e != api.OK {
		t.Error("P27.5:", x, e)
	}
	good := []api.Post{post(a, false, "king"), post(a, true, "anna")}
	if e := p.Check(text, terms, good, nil, []int{1, 0}); e != api.OK {
		t.Error("P27.6:", e)
	}
	for i, w := range [][]int{nil, {1}, {1, 0, 0}, {0, 0}, {1, 1}, {2, 0}, {-1, 0}} {
		if e := p.Check(text, terms, good, nil, w); e != api.ErrProof {
			t.Error("P27.6:", i, e)
		}
	}
	if e := p.Check(text, terms, good, heads, []int{1, 0}); e != api.ErrProof {
		t.Error("P27.6: a forbidden heading:", e)
	}
	if p.Rules() != 3 || p.Digest() != hash.Of(api.TagPolicy, syntax.Print(p.tree)) {
		t.Error("P27.2")
	}
	for s, want := range map[string]struct {
		n int
		e api.Errno
	}{"let a = b": {0, api.ErrName}, "let a = 1 let b = mentions": {1, api.ErrType}, "let ;": {4, api.ErrForm}, strings.Repeat(" ", 8193): {8192, api.ErrLimit}} {
		if p, n, e := Load(s); p != nil || n != want.n || e != want.e {
			t.Error("P27.1:", n, e)
		}
	}
}

func TestFields(t *testing.T) {
	w := passages(api.Passage{ID: a, Form: api.Table, Text: "Anna saw Anna. Rome! The king."}, api.Passage{ID: b, Form: api.Note, Text: "a"}, api.Passage{ID: api.ID{Seq: 2}, Form: api.Note, Text: "b"}, api.Passage{ID: api.ID{Seq: 3}, Text: "c"})
	for test, want := range map[string]bool{
		"mentions = 2": true, "sentences = 1": true, "tokens = 8": false, "tokens = 9": true, "form = 3": true, "notes = 2": true, "2 < 2": false, "2 <= 2": true, "not 1 = 2": true, "1 = 2 or 3 = 3": true, "1 = 1 and 3 = 2": false,
		"some sentence [mentions = 2]": true, "some sentence [mentions = 1]": false, "every sentence [mentions <= 2]": true, "every sentence [mentions = 2]": false, "some sentence [tokens = 2 and mentions = 0]": true, "every sentence [tokens < 5]": true,
		"1 - 3 * 2 = 0 - 5": true, "k * k = 9": true, "(1 + 2) * 3 = 9": true,
		"999999999 * 999999999 * 999999999 < 0 or 999999999 * 999999999 * 999999999 * 999999999 < 0": true,
	} {
		p := load(t, "let k = 3 rule r each person demand post if "+test)
		l, _ := p.Demands(w, []api.Term{{Name: "anna"}})
		if (len(l) == 1) != want {
			t.Error("P27.3:", test, l)
		}
	}
	big := []api.Term{{Name: "a", Broader: []string{"b", "c"}}, {Name: "b", Broader: []string{"c"}, Kind: 1}, {Name: "c"}, {Name: "d", See: "c"}, {Name: "e", See: "c"}}
	for s, want := range map[string]string{"term demand heading": "abc", "term demand see": "de", "place demand heading": "b", "term demand heading if broader = 2": "a", "term demand heading if narrower = 2": "c", "term demand heading if narrower = 1": "b", "term demand heading if aliases = 2": "c", "subject demand see": ""} {
		l, e := load(t, "rule r entry "+s).Demands(api.Work{}, big)
		got := ""
		for _, d := range l {
			got += d.Term
			if d.ID != (api.ID{}) {
				t.Error("P27.3:", d)
			}
		}
		if got != want || e != api.OK {
			t.Error("P27.3:", s, got, e)
		}
	}
	for test, want := range map[string]bool{"level = 2 and locators = 5 and mains = 3 and subs = 1": true, "level = 1": false} {
		l, _ := load(t, "rule r no heading if "+test).Breaches(api.Work{}, nil, nil, []Head{{[]string{"x", "y"}, 2, 5, 3, 1}})
		if (len(l) == 1) != want {
			t.Error("P27.5:", test, l)
		}
	}
}

func TestAnswers(t *testing.T) {
	p := load(t, "")
	voc := []api.Term{{Name: "king"}, {Name: "prince", See: "king"}}
	posts := []api.Post{post(b, true, "king"), post(a, false, "ode", "king"), post(a, true, "x", "king"), post(a, false, "king", "of"), post(a, false)}
	l := []Demand{{0, "post", a, "king"}, {0, "absent", a, "king"}, {0, "main", a, "king"}, {0, "heading", api.ID{}, "king"}, {0, "heading", api.ID{}, "x"}, {0, "heading", api.ID{}, ""}, {0, "see", api.ID{}, "prince"}, {0, "see", api.ID{}, "king"}, {0, "see", api.ID{}, "zz"}, {0, "post", a, "zz"}}
	if w, e := p.Witness(l, voc, posts); !slices.Equal(w, []int{1, 1, 2, 0, 2, -1, 0, -1, -1, -1}) || e != api.OK {
		t.Error("P27.4:", w, e)
	}
	if _, e := p.Witness([]Demand{{Deed: "x"}}, voc, posts); e != api.ErrArg {
		t.Error("P27.4:", e)
	}
	if _, e := p.Witness([]Demand{{Deed: "x"}}, voc, make([]api.Post, 1001)); e != api.ErrLimit {
		t.Error("P27.4:", e)
	}
	if _, e := p.Witness(nil, []api.Term{{}}, make([]api.Post, 1001)); e != api.ErrArg {
		t.Error("P27.4:", e)
	}
}

func TestErrors(t *testing.T) {
	p := load(t, source)
	bad := passages(api.Passage{ID: a, Text: "x"}, api.Passage{ID: a, Text: "x"})
	for i, x := range []struct {
		p     *Policy
		w     api.Work
		terms []api.Term
		posts []api.Post
		heads []Head
		e, d  api.Errno
	}{{nil, bad, nil, nil, nil, api.ErrArg, api.ErrArg}, {p, bad, []api.Term{{}}, nil, nil, api.ErrTwice, api.ErrTwice}, {p, text, []api.Term{{}}, make([]api.Post, 1001), nil, api.ErrArg, api.ErrArg}, {p, text, nil, make([]api.Post, 1001), nil, api.ErrLimit, api.OK}, {p, text, nil, nil, make([]Head, 257), api.ErrLimit, api.OK}} {
		_, e := x.p.Breaches(x.w, x.terms, x.posts, x.heads)
		_, d := x.p.Demands(x.w, x.terms)
		if c := x.p.Check(x.w, x.terms, x.posts, x.heads, nil); e != x.e || c != e || d != x.d {
			t.Error("P27.3, P27.5, P27.6:", i, e, c, d)
		}
	}
	var none *Policy
	if _, e := none.Witness(nil, nil, nil); e != api.ErrArg || none.Rules() != 0 || none.Digest() != (api.Digest{}) {
		t.Error("a nil policy:", e)
	}
}

func TestProperties(t *testing.T) {
	r := rand.New(rand.NewSource(1))
	rules := []string{"rule a each term demand post if some sentence [mentions = 1]\n", "rule b each person demand main if tokens < 6\n", "rule c each subject demand absent if notes = 0\n", "rule d no heading if k < locators\n", "rule e entry term demand heading\n", "rule f entry term demand see\n"}
	voc := []api.Term{{Name: "anna"}, {Name: "king", Kind: 2}, {Name: "prince", See: "king", Kind: 2}}
	for range 500 {
		var l []api.Passage
		for i := range r.Intn(4) {
			l = append(l, api.Passage{ID: api.ID{K: i}, Text: "x " + strings.Join([]string{"Anna", "king.", "prince", "ode."}[r.Intn(3):], " ")})
		}
		w := passages(l...)
		var posts []api.Post
		for range r.Intn(8) {
			posts = append(posts, post(api.ID{K: r.Intn(3)}, r.Intn(2) == 0, []string{"anna", "king", "king", "ode"}[r.Intn(4):][:1]...))
		}
		heads := []Head{{[]string{"x"}, 1, r.Intn(4), 0, 0}}
		src := ""
		for _, rule := range rules {
			if r.Intn(2) == 0 {
				src += rule
			}
		}
		p := load(t, "let k = 2\n"+src)
		demands, _ := p.Demands(w, voc)
		witness, _ := p.Witness(demands, voc, posts)
		breaches, _ := p.Breaches(w, voc, posts, heads)
		if e := p.Check(w, voc, posts, heads, witness); (e == api.OK) != (len(breaches) == 0) {
			t.Fatal("P27.7:", src, e, breaches)
		}
		more, _ := p.Witness(demands, voc, append(slices.Clone(posts), post(api.ID{}, true, "anna")))
		for i, d := range demands {
			if witness[i] >= 0 && more[i] != witness[i] {
				t.Fatal("P27.8:", d)
			}
			if s, ok := work.Find(w, d.ID); ok && d.Deed != "heading" && d.Deed != "see" {
				q, _ := work.At(w, s)
				if !slices.Contains(vocabulary.Names(voc, q.Text, q.Lang), d.Term) {
					t.Fatal("P27.10:", d)
				}
			}
		}
		var apart []Breach
		for i, line := range strings.SplitAfter(src, "\n") {
			some, _ := load(t, "let k = 2\n"+line).Breaches(w, voc, posts, heads)
			for _, x := range some {
				x.Demand.Rule = i + 1
				apart = append(apart, x)
			}
		}
		if !slices.EqualFunc(apart, breaches, func(x, y Breach) bool { return reflect.DeepEqual(x, y) }) {
			t.Fatal("P27.9:", apart, breaches)
		}
	}
}
