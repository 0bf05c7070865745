package edit

import (
	"strconv"
	"testing"

	"passim/api"
	"passim/work"
)

func TestLimits(t *testing.T) {
	w := example()
	w.List[0].List[0].List = nil
	for i := range 5 {
		w.List[0].List[0].List = append(w.List[0].List[0].List, api.Passage{ID: id(0, i, 0), Text: "x" + strconv.Itoa(i)})
	}
	o := api.Op{Kind: api.OpRewrite, At: id(0, 1, 0), N: 4, Texts: []string{"p", "q", "r", "s"}, Pairs: [][2]int{{0, 0}, {3, 3}}}
	if x, e := Do(w, o, api.Name{By: 5, Seq: api.MaxSeq}); work.Size(x)[2] != 5 || e != api.OK {
		t.Error("P8.1:", e)
	}
	if Made(api.Op{Kind: api.OpDelete, Texts: []string{"x"}}) != 0 {
		t.Error("P8.3")
	}
}

func TestBack(t *testing.T) {
	none := id(-1, 0, 0)
	w := example()
	w.List[0].List[0].List[1].Form = api.Para
	for i, x := range []struct {
		o, back api.Op
	}{
		{api.Op{Kind: api.OpSwap, At: id(0, 0, 0), To: id(0, 2, 0)}, api.Op{Kind: api.OpSwap, At: id(0, 0, 0), To: id(0, 2, 0)}},
		{api.Op{Kind: api.OpRefer, At: id(0, 0, 0), Refs: []api.ID{none}}, api.Op{Kind: api.OpRefer, At: id(0, 0, 0), Refs: []api.ID{id(0, 1, 0)}}},
		{api.Op{Kind: api.OpMove, At: id(0, 0, 0), Spot: spot(0, 0, 2)}, api.Op{Kind: api.OpMove, At: id(0, 0, 0)}},
	} {
		if back, ok := Inverse(w, x.o); !ok || !Same(back, x.back) {
			t.Error("P8.4:", i, back, ok)
		}
	}
	o := api.Op{Kind: api.OpInsert, Form: api.Table, Lang: 3, Text: "x @", Refs: []api.ID{none}}
	if x, e := Do(w, o, name); e != api.OK || x.List[0].List[0].List[0].Lang != 3 || x.List[0].List[0].List[0].Form != api.Table {
		t.Error("P8.1:", e)
	}
}

func TestRoom(t *testing.T) {
	w := api.Work{List: []api.Volume{{List: []api.Article{{Title: "a"}, {Title: "b", List: []api.Passage{{ID: id(5, 0, 0), Text: "a b"}}}, {Title: "c", List: []api.Passage{{ID: id(5, 1, 0), Text: "a b"}}}}}}}
	for i := range api.MaxPassages - 2 {
		w.List[0].List[0].List = append(w.List[0].List[0].List, api.Passage{ID: id(0, 0, i), Text: "x"})
	}
	same := api.Op{Kind: api.OpRewrite, At: id(5, 0, 0), N: 1, Texts: []string{"x"}}
	for i, x := range []struct {
		o, p api.Op
		want bool
	}{
		{api.Op{Kind: api.OpRefer, At: id(5, 0, 0)}, api.Op{Kind: api.OpDelete, At: id(5, 1, 0)}, true}, {same, api.Op{Kind: api.OpMove, At: id(5, 1, 0), Spot: spot(0, 2, 0)}, true}, {api.Op{Kind: api.OpSplit, At: id(5, 0, 0), N: 1}, api.Op{Kind: api.OpDelete, At: id(5, 1, 0)}, false},
		{api.Op{Kind: api.OpMerge, At: id(5, 0, 0)}, api.Op{Kind: api.OpInsert, Spot: spot(0, 2, 0), Text: "x"}, false}, {api.Op{Kind: api.OpRewrite, At: id(5, 0, 0), N: 1, Texts: []string{"x", "y"}}, same, false},
	} {
		if ok := Apart(w, x.o, x.p); ok != x.want {
			t.Error("P8.5:", i, ok)
		}
	}
}
