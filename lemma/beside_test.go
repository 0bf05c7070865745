package lemma

import (
	"slices"
	"testing"

	"passim/api"
)

func TestBeside(t *testing.T) {
	x := Lexicon{Forms: []Form{{"the", "the", "art"}, {"sees", "see", "verb"}, {"saw", "saw", "noun"}, {"saw", "see", "verb"}}}
	for i, c := range []struct {
		prefers []Prefer
		words   []string
		k       int
		want    string
	}{
		{[]Prefer{{"", "verb", "noun"}}, []string{"saw", "sees"}, 0, "noun"},
		{[]Prefer{{"", "verb", "noun"}}, []string{"sees", "saw"}, 1, ""},
		{[]Prefer{{"", "verb", "noun"}}, []string{"saw", "the"}, 0, ""},
		{[]Prefer{{"art", "", "noun"}}, []string{"the", "saw"}, 1, "noun"},
		{[]Prefer{{"art", "", "noun"}}, []string{"saw", "the"}, 0, ""},
		{[]Prefer{{"art", "verb", "noun"}, {"art", "", "verb"}}, []string{"the", "saw", "sees"}, 1, "noun"},
		{[]Prefer{{"art", "verb", "noun"}, {"art", "", "verb"}}, []string{"the", "saw", "the"}, 1, "verb"},
		{[]Prefer{{"art", "", "adverb"}, {"art", "", "noun"}}, []string{"the", "saw"}, 1, "noun"},
		{[]Prefer{{"noun", "", "noun"}}, []string{"saw", "saw"}, 1, ""},
	} {
		x.Prefers = c.prefers
		f, e := Choose(x, c.words, c.k)
		if f.Class != c.want || (e == api.ErrClash) != (c.want == "") {
			t.Error("P33.4:", i, f, e)
		}
	}
	full := Lexicon{Forms: slices.Repeat([]Form{{"a", "a", "c"}}, 64), Rules: slices.Repeat([]Rule{{"abcdefgh", "abcdefgh", "abcdefgh", 8}}, 32), Prefers: slices.Repeat([]Prefer{{"abcdefgh", "", "c"}}, 32)}
	if e := Valid(full); e != api.OK {
		t.Error("P33.1:", e)
	}
	if _, e := Machine(full); e != api.OK {
		t.Error("P33.3:", e)
	}
}
