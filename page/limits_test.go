package page

import (
	"slices"
	"testing"

	"passim/api"
)

func TestLimits(t *testing.T) {
	if s := Shown(api.Passage{Text: "@", Refs: []api.ID{a}}, []Mark{{a, 1, 0}}); s != "1" {
		t.Error("P13.2:", s)
	}
	w := api.Work{List: []api.Volume{{List: []api.Article{{Title: "x"}}}}}
	for i := range 998 {
		w.List[0].List[0].List = append(w.List[0].List[0].List, api.Passage{ID: id(1, 0, i), Form: api.Plate, Text: "x"})
	}
	if l, e := Lay(w, style, nil); len(l) != 999 || e != api.OK {
		t.Error("P13.3:", len(l), e)
	}
	title := Line{ID: id(-1, 0, 0)}
	p := Page{Lines: []Line{title, {ID: a}, {ID: b}, title, {ID: a}}, Notes: []Line{title, {ID: b}, {ID: c}}}
	if ids := On(p); !slices.Equal(ids, []api.ID{a, b, c}) {
		t.Error("P13.5:", ids)
	}
}
