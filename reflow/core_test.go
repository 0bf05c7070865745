package reflow

import (
	"slices"
	"strings"
	"testing"

	"passim/api"
	"passim/page"
)

// TestFirstCore has styles that break the demands 2 and 3, 1 and 3, and 0, 1 and 2: of the pairs of which each style breaks one, 0 and 3 come first.
func TestFirstCore(t *testing.T) {
	var w api.Work
	short, long := api.Article{Title: "a"}, api.Article{Title: "b"}
	for i := range 29 {
		short.List = append(short.List, api.Passage{ID: id(i), Text: "x"})
	}
	for i := range 4 {
		long.List = append(long.List, api.Passage{ID: api.ID{By: 1, Seq: i}, Text: strings.TrimSpace(strings.Repeat("abcdefghij ", 11))})
	}
	w.List = []api.Volume{{List: []api.Article{short}}, {List: []api.Article{long}}}
	styles := []page.Style{{Width: 43, Height: 8}, {Width: 12, Height: 20}, {Width: 12, Height: 4}}
	l := []Demand{{Kind: Pages, Volume: 1, N: 5}, {Kind: Pages, Volume: 1, N: 2}, {Kind: Pages, N: 3}, {Kind: From, ID: id(28), N: 6}}
	for i, broken := range [][]int{{2, 3}, {1, 3}, {0, 1, 2}} {
		b, e := Make(w, styles[i])
		if e != api.OK {
			t.Fatal(e)
		}
		for k, d := range l {
			if ok, e := Holds(b, d); ok == slices.Contains(broken, k) || e != api.OK {
				t.Fatal("the case is another one:", i, k, ok, e)
			}
		}
	}
	core, proof, e := Core(w, styles, l)
	if !slices.Equal(core, []int{0, 3}) || !slices.Equal(proof, []int{3, 3, 0}) || e != api.OK {
		t.Error("P36.6:", core, proof, e)
	}
	if e := CheckCore(w, styles, l, []int{1, 2}, []int{2, 1, 1}); e != api.OK {
		t.Error("P36.7:", e)
	}
	eight := append(slices.Clone(l), l...)
	if _, _, e := Core(w, append(styles, styles...), eight); e != api.OK {
		t.Error("P36.6: as many as there can be:", e)
	}
}
