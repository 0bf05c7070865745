package concord

import (
	"slices"
	"strings"
	"testing"

	"passim/api"
	"passim/collate"
	"passim/lemma"
)

func TestBeside(t *testing.T) {
	x := lemma.Lexicon{Forms: []lemma.Form{{Word: "the", Lemma: "the", Class: "art"}, {Word: "sees", Lemma: "see", Class: "verb"}, {Word: "saw", Lemma: "saw", Class: "noun"}, {Word: "saw", Lemma: "watch", Class: "verb"}},
		Prefers: []lemma.Prefer{{After: "art", Before: "verb", Class: "noun"}, {After: "art", Class: "verb"}}}
	for text, want := range map[string]string{"the saw sees": "saw", "the saw": "watch", "the saw the sees": "watch", "saw sees": "saw", "sees the saw sees the saw": "saw watch"} {
		c, e := Make(passages(api.Passage{ID: a, Text: text}), x, []string{"sees", "the"}, collate.Spec{Order: []string{"s", "w"}})
		var lemmas []string
		for _, h := range c.Hits {
			lemmas = append(lemmas, h.Lemma)
		}
		if got := strings.Join(lemmas, " "); got != want || e != api.OK {
			t.Error("P34.1:", text, got, e)
		}
	}
}

func TestSorted(t *testing.T) {
	w := passages(api.Passage{ID: a, Text: "aa bb ab ba " + strings.Repeat("b", 70) + "z " + strings.Repeat("b", 70) + "a"})
	c, e := Make(w, lemma.Lexicon{}, nil, collate.Spec{Order: []string{"b", "a", "z"}})
	var tokens []int
	for _, h := range c.Hits {
		tokens = append(tokens, h.Token)
	}
	// By the collation b is before a; the two long ones are equal in their first 64 bytes.
	if !slices.Equal(tokens, []int{1, 5, 4, 3, 2, 0}) || e != api.OK {
		t.Error("P34.1:", tokens, e)
	}
	stops := []string{strings.Repeat("a", 24)}
	for n := range 63 {
		stops = append(stops, "b"+strings.Repeat("a", n/20)+string([]byte{byte('b' + n%20)}))
	}
	slices.Sort(stops)
	if _, e := Make(w, lemma.Lexicon{}, slices.Compact(stops), collate.Spec{}); len(stops) != 64 || e != api.OK {
		t.Error("P34.1:", len(stops), e)
	}
	if l := Print([]Line{{"a", "x", ""}, {"", "y", ""}}); !slices.Equal(l, []string{"a x", "  y"}) {
		t.Error("P34.5:", l)
	}
}
