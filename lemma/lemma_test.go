package lemma

import (
	"math/rand"
	"slices"
	"strings"
	"testing"

	"passim/api"
	"passim/transducer"
)

func example() Lexicon {
	return Lexicon{[]Form{{"odes", "ode", "noun"}}, []Rule{{"s", "", "noun", 3}, {"s", "", "verb", 3}}, []Prefer{{"noun", "", "verb"}}}
}

func TestExample(t *testing.T) {
	x := example()
	for word, want := range map[string][]Form{"odes": {{"odes", "ode", "noun"}}, "kings": {{"kings", "king", "noun"}, {"kings", "king", "verb"}}, "his": {{"his", "his", ""}}} {
		if l, e := All(x, word); !slices.Equal(l, want) || e != api.OK {
			t.Error("P33.2:", word, l, e)
		}
	}
	m, e := Machine(x)
	if e != api.OK || transducer.Valid(m) != api.OK {
		t.Fatal("P33.3:", e)
	}
	for word, want := range map[string][]string{"odes": {"1ode/noun", "2ode/noun", "2ode/verb", "3odes/"}, "his": {"3his/"}, "": nil, "Odes": nil, "a b": nil} {
		if l, e := transducer.Apply(m, word); !slices.Equal(l, want) || e != api.OK {
			t.Error("P33.3:", word, l, e)
		}
	}
	if f, e := Choose(x, []string{"odes", "kings"}, 1); f != (Form{"kings", "king", "verb"}) || e != api.OK {
		t.Error("P33.4:", f, e)
	}
	words := []string{"kings", "odes"}
	if l, e := Open(x, words); !slices.Equal(l, []int{0}) || e != api.OK {
		t.Error("P33.5:", l, e)
	}
	if l, e := Text(x, words); len(l) > 0 || e != api.ErrClash {
		t.Error("P33.5:", l, e)
	}
	if f, e := Choose(x, words, 0); f != (Form{}) || e != api.ErrClash {
		t.Error("P33.4:", f, e)
	}
	for _, k := range []int{-1, 2} {
		if _, e := Choose(x, words, k); e != api.ErrRange {
			t.Error("P33.4:", k, e)
		}
	}
	if l, e := Text(x, []string{"odes", "kings", "his"}); len(l) != 3 || l[1].Class != "verb" || e != api.OK {
		t.Error("P33.5:", l, e)
	}
}

func TestErrors(t *testing.T) {
	long := strings.Repeat("x", 25)
	for i, x := range []struct {
		x Lexicon
		e api.Errno
	}{
		{Lexicon{}, api.OK}, {Lexicon{Forms: make([]Form, 65)}, api.ErrLimit}, {Lexicon{Rules: make([]Rule, 33)}, api.ErrLimit}, {Lexicon{Prefers: make([]Prefer, 33)}, api.ErrLimit}, {Lexicon{Forms: []Form{{"", "a", "c"}}}, api.ErrArg}, {Lexicon{Forms: []Form{{"a", "", "c"}}}, api.ErrArg}, {Lexicon{Forms: []Form{{"a", "a", ""}}}, api.ErrArg},
		{Lexicon{Forms: []Form{{long, "a", "c"}}}, api.ErrArg}, {Lexicon{Forms: []Form{{long[1:], long[1:], "abcdefgh"}}}, api.OK}, {Lexicon{Forms: []Form{{"a", "a", "abcdefghi"}}}, api.ErrArg}, {Lexicon{Forms: []Form{{"A", "a", "c"}}}, api.ErrArg}, {Lexicon{Rules: []Rule{{"", "", "c", 0}}}, api.OK}, {Lexicon{Rules: []Rule{{"", "", "", 0}}}, api.ErrArg},
		{Lexicon{Rules: []Rule{{"abcdefghi", "", "c", 0}}}, api.ErrArg}, {Lexicon{Rules: []Rule{{"", "abcdefghi", "c", 0}}}, api.ErrArg}, {Lexicon{Rules: []Rule{{"a ", "", "c", 0}}}, api.ErrArg}, {Lexicon{Rules: []Rule{{"", "", "c", 9}}}, api.ErrArg}, {Lexicon{Rules: []Rule{{"", "", "c", -1}}}, api.ErrArg},
		{Lexicon{Prefers: []Prefer{{"", "", "c"}}}, api.ErrArg}, {Lexicon{Prefers: []Prefer{{"a", "", "c"}}}, api.OK}, {Lexicon{Prefers: []Prefer{{"", "b", "c"}}}, api.OK}, {Lexicon{Prefers: []Prefer{{"a", "", ""}}}, api.ErrArg}, {Lexicon{Prefers: []Prefer{{"9", "", "c"}}}, api.ErrArg},
	} {
		_, e1 := All(x.x, "a")
		_, e2 := Machine(x.x)
		_, e3 := Choose(x.x, []string{"a"}, 0)
		_, e4 := Text(x.x, nil)
		_, e5 := Open(x.x, nil)
		if e := Valid(x.x); e != x.e || e1 != e || e2 != e || e3 != e || e4 != e || e5 != e {
			t.Error("P33.1:", i, e, e1, e2, e3, e4, e5)
		}
	}
	for _, w := range []string{"", "A", "a b", "a9", strings.Repeat("x", 4097)} {
		_, e1 := All(Lexicon{}, w)
		_, e2 := Choose(Lexicon{}, []string{"a", w}, 9)
		_, e3 := Text(Lexicon{}, []string{w})
		_, e4 := Open(Lexicon{}, []string{w})
		if l := []api.Errno{e1, e2, e3, e4}; !slices.Equal(l, slices.Repeat([]api.Errno{api.ErrArg}, 4)) {
			t.Error("P33.2, P33.4, P33.5:", l)
		}
	}
	if l, e := All(Lexicon{Rules: []Rule{{"", "", "c", 0}, {"abc", "", "c", 0}, {"abc", "x", "c", 0}}}, "abc"); !slices.Equal(l, []Form{{"abc", "abc", "c"}, {"abc", "x", "c"}}) || e != api.OK {
		t.Error("P33.2: an empty stem:", l, e)
	}
}

func random(r *rand.Rand) Lexicon {
	var x Lexicon
	some := func(least, most int) string {
		b := make([]byte, least+r.Intn(most-least+1))
		for i := range b {
			b[i] = byte('a' + r.Intn(2))
		}
		return string(b)
	}
	classes := []string{"n", "v", "p"}
	for range r.Intn(3) {
		x.Forms = append(x.Forms, Form{some(1, 3), some(1, 3), classes[r.Intn(3)]})
	}
	for range r.Intn(4) {
		x.Rules = append(x.Rules, Rule{some(0, 2), some(0, 1), classes[r.Intn(3)], r.Intn(3)})
	}
	for range r.Intn(4) {
		p := Prefer{classes[r.Intn(3)], classes[r.Intn(3)], classes[r.Intn(3)]}
		if r.Intn(2) == 0 {
			p.Before = ""
		}
		x.Prefers = append(x.Prefers, p)
	}
	return x
}

func words() []string {
	l := []string{"a", "b"}
	for i := 0; len(l) < 30; i++ {
		l = append(l, l[i]+"a", l[i]+"b")
	}
	return l
}

func TestProperties(t *testing.T) {
	r := rand.New(rand.NewSource(1))
	all := words()
	for range 150 {
		x := random(r)
		m, _ := Machine(x)
		if transducer.Valid(m) != api.OK {
			t.Fatal("P33.3")
		}
		more := x
		more.Rules = append(slices.Clone(x.Rules), Rule{"a", "b", "v", 0})
		further := x
		further.Forms = append(slices.Clone(x.Forms), Form{"ab", "zz", "n"})
		for _, w := range all {
			l, _ := All(x, w)
			results, _ := transducer.Apply(m, w)
			var from []Form
			for _, s := range results {
				if s[0] == results[0][0] {
					a, b, _ := strings.Cut(s[1:], "/")
					from = append(from, Form{w, a, b})
				}
			}
			slices.SortFunc(from, func(a, b Form) int { return strings.Compare(a.Lemma+" "+a.Class, b.Lemma+" "+b.Class) })
			if !slices.Equal(l, from) {
				t.Fatal("P33.6:", x, w, l, results)
			}
			if k, _ := All(more, w); slices.ContainsFunc(x.Forms, func(f Form) bool { return f.Word == w }) && !slices.Equal(k, l) {
				t.Fatal("P33.7:", x, w)
			}
			if k, _ := All(further, w); w != "ab" && !slices.Equal(k, l) {
				t.Fatal("P33.7:", x, w)
			}
		}
		var text []string
		for range 6 {
			text = append(text, all[r.Intn(len(all))])
		}
		checkChoices(t, r, x, text)
	}
}

func checkChoices(t *testing.T, r *rand.Rand, x Lexicon, text []string) {
	open, _ := Open(x, text)
	last := x
	last.Prefers = append(slices.Clone(x.Prefers), Prefer{"n", "", "v"})
	if more, _ := Open(last, text); slices.ContainsFunc(more, func(k int) bool { return !slices.Contains(open, k) }) {
		t.Fatal("P33.9:", x, text)
	}
	for k, w := range text {
		f, e := Choose(x, text, k)
		if (e == api.ErrClash) != slices.Contains(open, k) {
			t.Fatal("P33.5:", x, text, k)
		}
		if g, _ := Choose(last, text, k); e == api.OK && f != g {
			t.Fatal("P33.9:", x, text, k)
		}
		if all, _ := All(x, w); e == api.OK && !slices.Contains(all, f) {
			t.Fatal("P33.8:", f)
		}
		from, to := max(k-1, 0), min(k+2, len(text))
		if g, e2 := Choose(x, text[from:to], k-from); g != f || e2 != e {
			t.Fatal("P33.8:", x, text, k)
		}
	}
}
