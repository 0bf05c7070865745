package vocabulary

import (
	"math/rand"
	"slices"
	"strings"
	"testing"

	"passim/api"
	"passim/token"
	"passim/wire"
)

func example() []api.Term {
	return []api.Term{{Name: "anna"}, {Name: "anna king", See: "anna"}, {Name: "king", Kind: 2, Broader: []string{"ruler"}}, {Name: "ruler", Kind: 2}}
}

func TestMentions(t *testing.T) {
	const text = "The king, Anna King; x9 anna"
	want := []Mention{{1, 2, "king", "king"}, {3, 5, "anna king", "anna"}, {8, 9, "anna", "anna"}}
	if l := Mentions(example(), text, 0); !slices.Equal(l, want) {
		t.Error("P24.6:", l)
	}
	if l := Mentions(example(), strings.ToUpper(text), 2); !slices.Equal(l, want) {
		t.Error("P24.9:", l)
	}
	if l := Names(example(), text, 0); !slices.Equal(l, []string{"anna", "king"}) {
		t.Error("P24.6:", l)
	}
	for text, n := range map[string]int{"anna-king": 2, "anna, king": 2, "anna @king": 1, "anna king9": 1, "(anna king)": 1, "9": 0, "": 0, "annaking": 0, "@ 9 ! anna": 1, "king king": 2} {
		if l := Mentions(example(), text, 0); len(l) != n {
			t.Error("P24.6:", text, l)
		}
	}
	lang := example()
	lang[0].Lang = 2
	for i, n := range []int{1, 1, 2, 1} {
		if l := Mentions(lang, "anna king anna", i); len(l) != n {
			t.Error("P24.6: the language", i, l)
		}
	}
	bad := append(example(), api.Term{})
	if len(Mentions(bad, "king", 0))+len(Names(bad, "king", 0)) > 0 {
		t.Error("P24.6: a vocabulary that is not valid")
	}
}

func TestRelations(t *testing.T) {
	l := example()
	if a, b, c := Above(l, "king"), Below(l, "ruler"), Aliases(l, "anna"); !slices.Equal(a, []string{"ruler"}) || !slices.Equal(b, []string{"king"}) || !slices.Equal(c, []string{"anna king"}) {
		t.Error("P24.5:", a, b, c)
	}
	if x, e := Add(l, api.Term{Name: "ruler", Broader: []string{"king"}}); x != nil || e != api.ErrCycle {
		t.Error("P24.3:", e)
	}
	if x, e := Add(l, api.Term{Name: "queen", See: "anna king"}); x != nil || e != api.ErrType {
		t.Error("P24.3:", e)
	}
	x, e := Add(l, api.Term{Name: "emperor", Broader: []string{"king", "ruler"}})
	if e != api.OK || len(x) != 5 || x[2].Name != "emperor" || !slices.Equal(Below(x, "ruler"), []string{"emperor", "king"}) || !slices.Equal(Above(x, "emperor"), []string{"king", "ruler"}) {
		t.Error("P24.3, P24.5:", x, e)
	}
	x[2].Broader[0], x[3].Broader[0] = "changed", "changed"
	if !Same(l, example()) {
		t.Error("P24.3: memory is shared")
	}
	for name, want := range map[string]string{"anna": "anna", "anna king": "anna", "queen": ""} {
		if p, e := Prefer(l, name); p != want || (e == api.ErrNone) != (want == "") {
			t.Error("P24.4:", name, p, e)
		}
	}
	bad := []api.Term{{Name: "b"}, {Name: "a", See: "b"}}
	if _, e := Prefer(bad, "a"); e != api.ErrTwice {
		t.Error("P24.4:", e)
	}
	if _, e := Add(bad, api.Term{}); e != api.ErrTwice {
		t.Error("P24.3:", e)
	}
	if len(Aliases(bad, "b"))+len(Above(bad, "a"))+len(Below(bad, "a"))+len(Above(l, "queen"))+len(Aliases(l, "")) > 0 {
		t.Error("P24.5: nothing")
	}
	if Find(bad, "a") != 1 || Find(bad, "c") != -1 {
		t.Error("P24.2")
	}
}

func TestValid(t *testing.T) {
	many := make([]api.Term, 129)
	for i, x := range []struct {
		l []api.Term
		n int
		e api.Errno
	}{
		{nil, 0, api.OK}, {example(), 4, api.OK}, {many, 0, api.ErrLimit}, {[]api.Term{{Name: "king"}, {Name: "anna"}}, 1, api.ErrTwice}, {[]api.Term{{Name: "king"}, {Name: "king"}}, 1, api.ErrTwice},
		{[]api.Term{{Name: ""}}, 0, api.ErrArg}, {[]api.Term{{Name: "a b c d"}}, 1, api.OK}, {[]api.Term{{Name: "a b c d e"}}, 0, api.ErrArg}, {[]api.Term{{Name: "a  b"}}, 0, api.ErrArg}, {[]api.Term{{Name: " a"}}, 0, api.ErrArg}, {[]api.Term{{Name: "A"}}, 0, api.ErrArg}, {[]api.Term{{Name: "a9"}}, 0, api.ErrArg},
		{[]api.Term{{Name: strings.Repeat("a", 24)}}, 1, api.OK}, {[]api.Term{{Name: strings.Repeat("a", 25)}}, 0, api.ErrArg}, {[]api.Term{{Name: "a", Kind: 3}}, 0, api.ErrArg}, {[]api.Term{{Name: "a", Lang: -1}}, 0, api.ErrArg}, {[]api.Term{{Name: "a", Lang: 4}}, 0, api.ErrArg},
		{[]api.Term{{Name: "a", See: "A"}}, 0, api.ErrArg}, {[]api.Term{{Name: "a", See: "b"}}, 0, api.ErrNone}, {[]api.Term{{Name: "a", See: "a"}}, 0, api.ErrType}, {[]api.Term{{Name: "a", See: "b", Broader: []string{"b"}}, {Name: "b"}}, 0, api.ErrArg}, {[]api.Term{{Name: "a", Broader: []string{"a"}}}, 0, api.ErrCycle},
		{[]api.Term{{Name: "a", Broader: []string{"b"}}, {Name: "b", Broader: []string{"a"}}}, 0, api.ErrCycle}, {[]api.Term{{Name: "a", Broader: []string{"b"}}, {Name: "b", Broader: []string{"b"}}}, 1, api.ErrCycle}, {[]api.Term{{Name: "a", Broader: []string{"b"}}, {Name: "b", See: "c"}, {Name: "c"}}, 0, api.ErrType},
		{[]api.Term{{Name: "a", Broader: []string{"b"}}, {Name: "b", Broader: []string{"zz"}}}, 1, api.ErrNone}, {[]api.Term{{Name: "a", Broader: []string{"c", "b"}}, {Name: "b"}, {Name: "c"}}, 0, api.ErrArg}, {[]api.Term{{Name: "a", Broader: []string{"b", "b"}}, {Name: "b"}}, 0, api.ErrArg},
		{[]api.Term{{Name: "a", Broader: make([]string, 9)}}, 0, api.ErrArg}, {[]api.Term{{Name: "a", Broader: []string{"b", "zz"}}, {Name: "b", See: "c"}, {Name: "c"}}, 0, api.ErrNone},
	} {
		if n, e := Valid(x.l); n != x.n || e != x.e {
			t.Error("P24.1:", i, n, e)
		}
	}
}

func random(r *rand.Rand) []api.Term {
	var l []api.Term
	for range r.Intn(12) {
		name := []string{"a", "b", "c", "a b", "b c", "a b c", "d", "b b"}
		x := api.Term{Name: name[r.Intn(8)], Lang: r.Intn(3)}
		switch r.Intn(3) {
		case 0:
			x.See = name[r.Intn(8)]
		case 1:
			x.Broader = []string{name[r.Intn(8)]}
		}
		if more, e := Add(l, x); e == api.OK {
			again, e := Add(more, x)
			if e != api.OK || !Same(more, again) {
				panic("P24.10")
			}
			for _, y := range l {
				if i := Find(more, y.Name); y.Name != x.Name && (i < 0 || !Same(more[i:i+1], []api.Term{y})) {
					panic("P24.10: another term changed")
				}
			}
			l = more
		}
	}
	return l
}

func TestProperties(t *testing.T) {
	r := rand.New(rand.NewSource(1))
	last := example()
	for range 400 {
		l := random(r)
		if Same(l, last) != slices.Equal(Encode(l), Encode(last)) {
			t.Fatal("P24.11")
		}
		last = l
		for _, x := range l {
			p, _ := Prefer(l, x.Name)
			if q, _ := Prefer(l, p); q != p || slices.Contains(Above(l, x.Name), x.Name) || x.See != "" && len(Aliases(l, x.Name)) > 0 {
				t.Fatal("P24.8:", x)
			}
			for _, y := range l {
				above := slices.Contains(Above(l, x.Name), y.Name)
				if above != slices.Contains(Below(l, y.Name), x.Name) {
					t.Fatal("P24.8:", x, y)
				}
				for _, z := range Above(l, y.Name) {
					if above && !slices.Contains(Above(l, x.Name), z) {
						t.Fatal("P24.8:", x, y, z)
					}
				}
			}
		}
		text := ""
		for range 1 + r.Intn(8) {
			text += []string{"a ", "b ", "c, ", "d ", "B "}[r.Intn(5)]
		}
		checkMentions(t, l, strings.TrimSpace(text), r.Intn(3))
	}
}

func checkMentions(t *testing.T, l []api.Term, text string, lang int) {
	tokens := token.Split(text)
	stands := func(at int, x api.Term) bool {
		parts := strings.Split(x.Name, " ")
		for i, p := range parts {
			if at+i >= len(tokens) || token.Fold(text[tokens[at+i].At:tokens[at+i].End]) != p {
				return false
			}
		}
		return x.Lang == 0 || x.Lang == lang
	}
	end := 0
	for _, m := range append(Mentions(l, text, lang), Mention{From: len(tokens)}) {
		for at := end; at <= m.From && at < len(tokens); at++ {
			for _, x := range l {
				if stands(at, x) && (at < m.From || len(strings.Split(x.Name, " ")) > m.To-m.From) {
					t.Fatal("P24.9:", text, m, x)
				}
			}
		}
		if i := Find(l, m.Name); m.From < len(tokens) && !stands(m.From, l[i]) {
			t.Fatal("P24.9:", text, m)
		}
		end = m.To
	}
}

func TestBytes(t *testing.T) {
	l := []api.Term{{Name: "a", Kind: 1, Lang: 2, See: "b", Broader: []string{"c", "d"}}}
	if b := Encode(l); !slices.Equal(b, slices.Concat(wire.Int(1), wire.Ints([]int{1, 2}), wire.Strings([]string{"a", "b", "c", "d"}))) {
		t.Error("P24.7:", b)
	}
	if Same(l, nil) || Same(l, example()[:1]) {
		t.Error("P24.7")
	}
}
