package policy

import (
	"maps"
	"slices"

	"passim/api"
	"passim/syntax"
	"passim/token"
	"passim/vocabulary"
)

// subject is what a test is about.
type subject interface {
	field(name string) int
	sentences() []values
}

// values has the values of the fields of a subject.
type values map[string]int

func (v values) field(name string) int { return v[name] }

func (v values) sentences() []values { return nil }

// mention is a term in a passage that mentions it, with the values for each of its sentences.
type mention struct {
	values
	id   api.ID
	term api.Term
	list []values
}

func (m mention) sentences() []values { return m.list }

// headValues returns the values of the fields of a heading.
func headValues(h Head) values {
	return values{"locators": h.Locators, "mains": h.Mains, "level": h.Level, "subs": h.Subs}
}

// termValues returns the values of the fields of a term of a vocabulary.
func termValues(t api.Term, terms []api.Term) values {
	v := values{"broader": len(t.Broader)}
	for _, x := range terms {
		if slices.Contains(x.Broader, t.Name) {
			v["narrower"]++
		}
		if x.See == t.Name {
			v["aliases"]++
		}
	}
	return v
}

// mentionsOf returns what the passages of a work mention, in the order of reading, and by names.
func mentionsOf(w api.Work, terms []api.Term) []mention {
	var l []mention
	for _, v := range w.List {
		for _, a := range v.List {
			for i, p := range a.List {
				notes := 0
				for i+1+notes < len(a.List) && a.List[i+1+notes].Form == api.Note {
					notes++
				}
				l = append(l, mentionsIn(p, notes, terms)...)
			}
		}
	}
	return l
}

// mentionsIn returns what a passage mentions, by names.
func mentionsIn(p api.Passage, notes int, terms []api.Term) []mention {
	by := map[string][]vocabulary.Mention{}
	for _, m := range vocabulary.Mentions(terms, p.Text, p.Lang) {
		by[m.Preferred] = append(by[m.Preferred], m)
	}
	ends, tokens := token.Sentences(p.Text), len(token.Split(p.Text))
	var l []mention
	for _, name := range slices.Sorted(maps.Keys(by)) {
		x := mention{id: p.ID, term: terms[vocabulary.Find(terms, name)]}
		sentences := 0
		for _, s := range ends {
			v := values{"tokens": s[1] - s[0]}
			for _, m := range by[name] {
				if s[0] <= m.From && m.From < s[1] {
					v["mentions"]++
				}
			}
			if v["mentions"] > 0 {
				sentences++
			}
			x.list = append(x.list, v)
		}
		x.values = values{"mentions": len(by[name]), "sentences": sentences, "tokens": tokens, "form": p.Form, "notes": notes}
		l = append(l, x)
	}
	return l
}

// fires reports whether the test of a rule holds for a subject.
func (p *Policy) fires(rule api.Node, s subject) bool {
	test := rule.Kids[len(rule.Kids)-1]
	return test.Kind == syntax.Deed || p.holds(test, s)
}

// holds reports whether a test holds for a subject.
func (p *Policy) holds(n api.Node, s subject) bool {
	in := func(v values) bool { return p.holds(n.Kids[0], v) }
	switch n.Kind {
	case syntax.Or:
		return p.holds(n.Kids[0], s) || p.holds(n.Kids[1], s)
	case syntax.And:
		return p.holds(n.Kids[0], s) && p.holds(n.Kids[1], s)
	case syntax.Not:
		return !p.holds(n.Kids[0], s)
	case syntax.Some:
		return slices.ContainsFunc(s.sentences(), in)
	case syntax.Every:
		return !slices.ContainsFunc(s.sentences(), func(v values) bool { return !in(v) })
	}
	a, b := p.value(n.Kids[0], s), p.value(n.Kids[1], s)
	switch n.Kind {
	case syntax.Less:
		return a < b
	case syntax.Most:
		return a <= b
	}
	return a == b
}

// value returns the value of an expression for a subject.
func (p *Policy) value(n api.Node, s subject) int {
	switch n.Kind {
	case syntax.Num:
		return n.N
	case syntax.Name:
		return p.constants[n.Text]
	case syntax.Field:
		return s.field(n.Text)
	}
	a, b := p.value(n.Kids[0], s), p.value(n.Kids[1], s)
	switch n.Kind {
	case syntax.Add:
		return a + b
	case syntax.Sub:
		return a - b
	}
	return a * b
}
