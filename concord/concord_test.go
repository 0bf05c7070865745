package concord

import (
	"math"
	"math/rand"
	"slices"
	"strings"
	"testing"

	"passim/api"
	"passim/collate"
	"passim/lemma"
	"passim/page"
	"passim/token"
	"passim/work"
)

var (
	a, b  = api.ID{}, api.ID{Seq: 1}
	lex   = lemma.Lexicon{Forms: []lemma.Form{{Word: "odes", Lemma: "ode", Class: "noun"}}, Rules: []lemma.Rule{{Suffix: "s", Class: "noun", Least: 3}, {Suffix: "s", Class: "verb", Least: 3}}, Prefers: []lemma.Prefer{{After: "noun", Class: "verb"}}}
	style = page.Style{Width: 40, Height: 9}
	stops = []string{"of", "the"}
)

func spec() collate.Spec {
	s := collate.Spec{Words: true, Skip: []string{"the"}, Numbers: true}
	for c := byte('a'); c <= 'z'; c++ {
		s.Order = append(s.Order, string([]byte{c, c - 32}))
	}
	return s
}

func passages(l ...api.Passage) api.Work {
	return api.Work{List: []api.Volume{{List: []api.Article{{Title: "x", List: l}}}}}
}

func example() api.Work {
	return passages(api.Passage{ID: a, Text: "The kings of Rome, odes"}, api.Passage{ID: b, Form: api.Note, Text: "ode"})
}

func TestExample(t *testing.T) {
	c, e := Make(example(), lex, stops, spec())
	if want := []Hit{{a, 1, "kings"}, {a, 5, "ode"}, {b, 0, "ode"}, {a, 3, "rome"}}; !slices.Equal(c.Hits, want) || !slices.Equal(c.Stops, []int{1, 1}) || e != api.OK {
		t.Error("P34.1:", c, e)
	}
	if e := Check(example(), lex, stops, spec(), c); e != api.OK {
		t.Error("P34.2:", e)
	}
	if l := Under(c, "ode"); !slices.Equal(l, c.Hits[1:3]) || len(Under(c, "odes")) > 0 {
		t.Error("P34.3:", l)
	}
	c.Stops[0]++
	if e := Check(example(), lex, stops, spec(), c); e != api.ErrProof {
		t.Error("P34.2:", e)
	}
	text := "The kings of Rome, odes"
	one, e := Context(style, text, 3, 17)
	if one != (Line{"of", "Rome,", "odes"}) || e != api.OK {
		t.Error("P34.4:", one, e)
	}
	two, e := Context(style, text, 4, 5)
	if two != (Line{"", "Rome,", ""}) || e != api.OK {
		t.Error("P34.4:", two, e)
	}
	if l := Print([]Line{one, two}); !slices.Equal(l, []string{"of Rome, odes", "   Rome,"}) {
		t.Error("P34.5:", l)
	}
	if l := Print([]Line{{"", "x", "y"}, {"", "z", ""}}); !slices.Equal(l, []string{"x y", "z"}) {
		t.Error("P34.5:", l)
	}
	l, e := Lines(example(), style, []Hit{{b, 0, "?"}, {a, 3, ""}}, 17)
	if !slices.Equal(l, []Line{{"", "ode", ""}, one}) || e != api.OK {
		t.Error("P34.4:", l, e)
	}
}

func TestErrors(t *testing.T) {
	bad := passages(api.Passage{ID: a, Text: "x"}, api.Passage{ID: a, Text: "x"})
	many := make([]string, 65)
	for i, x := range []struct {
		w     api.Work
		x     lemma.Lexicon
		stops []string
		s     collate.Spec
		e     api.Errno
	}{{bad, lemma.Lexicon{Forms: make([]lemma.Form, 1)}, many, collate.Spec{Order: []string{""}}, api.ErrTwice}, {api.Work{}, lemma.Lexicon{Forms: make([]lemma.Form, 65)}, []string{""}, spec(), api.ErrLimit}, {api.Work{}, lex, many, spec(), api.ErrLimit}, {api.Work{}, lex, []string{""}, collate.Spec{Order: []string{"aa"}}, api.ErrArg},
		{api.Work{}, lex, []string{"b", "a"}, spec(), api.ErrArg}, {api.Work{}, lex, []string{"a", "a"}, spec(), api.ErrArg}, {api.Work{}, lex, []string{"A"}, spec(), api.ErrArg}, {api.Work{}, lex, []string{strings.Repeat("a", 25)}, spec(), api.ErrArg}, {api.Work{}, lex, nil, collate.Spec{Order: []string{"aa"}}, api.ErrTwice}, {api.Work{}, lex, nil, spec(), api.OK}} {
		c, e := Make(x.w, x.x, x.stops, x.s)
		if e != x.e || e != api.OK && len(c.Hits)+len(c.Stops) > 0 || Check(x.w, x.x, x.stops, x.s, c) != e {
			t.Error("P34.1, P34.2:", i, e)
		}
	}
	for i, x := range []struct {
		s        page.Style
		text     string
		k, width int
		e        api.Errno
	}{{page.Style{}, "", 0, 0, api.ErrArg}, {style, "a  b", 9, 0, api.ErrForm}, {style, "a b", 2, 0, api.ErrRange}, {style, "a b", -1, 0, api.ErrRange}, {style, "a b", 0, 0, api.ErrWide}, {style, "a b", 0, -9, api.ErrWide}, {style, "a b", 0, 1, api.OK}, {page.Style{Width: 9, Height: 9, Wide: "a"}, "a b", 0, 1, api.ErrWide}, {style, "a b", 0, math.MaxInt, api.OK}} {
		if l, e := Context(x.s, x.text, x.k, x.width); e != x.e || e != api.OK && l != (Line{}) {
			t.Error("P34.4:", i, e)
		}
	}
	for i, x := range []struct {
		w    api.Work
		s    page.Style
		hits []Hit
		e    api.Errno
	}{{bad, page.Style{}, nil, api.ErrTwice}, {example(), page.Style{}, []Hit{{ID: api.ID{By: 5}}}, api.ErrArg}, {example(), style, []Hit{{ID: api.ID{By: 5}}, {a, 99, ""}}, api.ErrNone}, {example(), style, []Hit{{a, 99, ""}, {ID: api.ID{By: 5}}}, api.ErrRange}, {example(), style, []Hit{{a, 3, ""}}, api.ErrWide}} {
		if l, e := Lines(x.w, x.s, x.hits, 4); len(l) > 0 || e != x.e {
			t.Error("P34.4:", i, e)
		}
	}
}

// TestWidths has widths of any value, for a Key that is 5 wide.
func TestWidths(t *testing.T) {
	text := "The kings of Rome, odes"
	for _, width := range []int{math.MinInt, math.MinInt + 1, math.MinInt + 4, math.MinInt + 5, math.MinInt + 6, math.MinInt + 4096, -1, 0, 4} {
		if l, e := Context(style, text, 3, width); l != (Line{}) || e != api.ErrWide {
			t.Error("P34.4:", width, l, e)
		}
		if l, e := Lines(example(), style, []Hit{{a, 3, ""}}, width); len(l) > 0 || e != api.ErrWide {
			t.Error("P34.4:", width, l, e)
		}
	}
	want := Line{"The kings of", "Rome,", "odes"}
	for _, width := range []int{len(text), len(text) + 1, math.MaxInt - 1, math.MaxInt} {
		if l, e := Context(style, text, 3, width); l != want || e != api.OK {
			t.Error("P34.4:", width, l, e)
		}
		if l, e := Lines(example(), style, []Hit{{a, 3, ""}}, width); !slices.Equal(l, []Line{want}) || e != api.OK {
			t.Error("P34.4:", width, l, e)
		}
	}
}

func random(r *rand.Rand) api.Work {
	var l []api.Passage
	for i := range 1 + r.Intn(4) {
		text := ""
		for range 1 + r.Intn(8) {
			text += []string{"Odes ", "the ", "kings, ", "of ", "x9-y ", "Songs. "}[r.Intn(6)]
		}
		l = append(l, api.Passage{ID: api.ID{Seq: i}, Text: strings.TrimSpace(text)})
	}
	return passages(l...)
}

func TestProperties(t *testing.T) {
	r := rand.New(rand.NewSource(1))
	for range 300 {
		w := random(r)
		c, _ := Make(w, lex, stops, spec())
		n := 0
		for _, k := range c.Stops {
			n += k
		}
		seen := map[Hit]bool{}
		for i, h := range c.Hits {
			seen[Hit{h.ID, h.Token, ""}] = true
			if i == 0 {
				continue
			}
			last := c.Hits[i-1]
			k, _ := collate.Compare(spec(), last.Lemma, h.Lemma)
			if k > 0 || k == 0 && last.Lemma > h.Lemma || last.Lemma == h.Lemma && (last.ID.Seq > h.ID.Seq || last.ID == h.ID && last.Token >= h.Token) {
				t.Fatal("P34.7:", last, h)
			}
		}
		words := 0
		for _, p := range work.All(w) {
			words += len(token.Words(p.Text))
		}
		if len(seen) != len(c.Hits) || len(seen)+n != words {
			t.Fatal("P34.6:", c, words)
		}
		more, _ := Make(w, lex, []string{"kings", "of", "the"}, spec())
		less := slices.DeleteFunc(slices.Clone(c.Hits), func(h Hit) bool {
			s, _ := work.Find(w, h.ID)
			p, _ := work.At(w, s)
			return token.Fold(token.Part(p.Text, h.Token, h.Token+1)) == "kings"
		})
		if !slices.Equal(more.Hits, less) || !slices.Equal(more.Stops[1:], c.Stops) {
			t.Fatal("P34.9:", c, more)
		}
		width := 3 + r.Intn(30)
		for _, h := range c.Hits {
			if l, e := Lines(w, style, []Hit{h}, width); e == api.OK {
				s, _ := work.Find(w, h.ID)
				p, _ := work.At(w, s)
				checkContext(t, p.Text, l[0], width)
			}
		}
	}
}

func checkContext(t *testing.T, text string, l Line, width int) {
	whole := strings.TrimSpace(l.Left + " " + l.Key + " " + l.Right)
	if len(whole) > width || !strings.Contains(" "+text+" ", " "+whole+" ") {
		t.Fatal("P34.8:", text, l)
	}
	for at := 0; ; at++ {
		i := strings.Index((" " + text + " ")[at:], " "+whole+" ")
		if i < 0 {
			t.Fatal("P34.8: there is room for more:", text, l, width)
		}
		at += i
		before, after := strings.Fields(text[:at]), strings.Fields(text[min(at+len(whole), len(text)):])
		full := (len(before) == 0 || len(whole)+1+len(before[len(before)-1]) > width) && (len(after) == 0 || len(whole)+1+len(after[0]) > width)
		if full {
			return
		}
	}
}
