package reflow

import (
	"math/rand"
	"reflect"
	"slices"
	"strings"
	"testing"

	"passim/api"
	"passim/page"
	"passim/work"
)

func id(seq int) api.ID { return api.ID{Seq: seq} }

func passages(l ...api.Passage) api.Work {
	return api.Work{List: []api.Volume{{List: []api.Article{{Title: "odes", List: l}}}}}
}

var style = page.Style{Width: 8, Height: 2}

func example() api.Work {
	l := []api.Passage{{ID: id(0), Text: "see @ now", Refs: []api.ID{id(9)}}, {ID: id(1), Text: "lyre"}}
	for _, n := range []int{2, 3, 4, 5, 6, 7, 8, 10} {
		l = append(l, api.Passage{ID: id(n), Form: api.Plate, Text: "rome"})
	}
	return passages(append(l, api.Passage{ID: id(9), Text: "end"})...)
}

func TestExample(t *testing.T) {
	w := example()
	b, e := Make(w, style)
	if e != api.OK || b.Rounds != 2 || !slices.Equal(b.Marks, []page.Mark{{ID: id(9), Page: 11, Width: 2}}) || len(b.Pages) != 11 || b.Pages[0].Lines[1].Text != "see 11" {
		t.Error("P36.2:", b, e)
	}
	if e := Check(w, style, b); e != api.OK {
		t.Error("P36.3:", e)
	}
	nine := page.Style{Width: 9, Height: 2}
	if b, e := Make(w, nine); b.Rounds != 2 || b.Marks[0].Page != 11 || b.Pages[1].Lines[0].Text != "now" || e != api.OK {
		t.Error("P36.2:", b, e)
	}
	l := []Demand{{Kind: By, N: 10, ID: id(9)}, {Kind: Pages, N: 10}}
	core, proof, e := Core(w, []page.Style{style, nine}, l)
	if !slices.Equal(core, []int{0}) || !slices.Equal(proof, []int{0, 0}) || e != api.OK {
		t.Error("P36.6:", core, proof, e)
	}
	if e := CheckCore(w, []page.Style{style, nine}, l, core, proof); e != api.OK {
		t.Error("P36.7:", e)
	}
	if n, x, e := Fit(w, []page.Style{style, nine}, l); n != 0 || len(x.Pages) > 0 || e != api.ErrClash {
		t.Error("P36.5:", n, e)
	}
	if l := Targets(w); !slices.Equal(l, []api.ID{id(9)}) {
		t.Error("P36.1:", l)
	}
	twice := passages(api.Passage{ID: id(1), Refs: []api.ID{id(2), id(5), id(1), id(2)}}, api.Passage{ID: id(2), Refs: []api.ID{id(1)}})
	if l := Targets(twice); !slices.Equal(l, []api.ID{id(2), id(1)}) {
		t.Error("P36.1:", l)
	}
}

func TestCheck(t *testing.T) {
	w := example()
	bad := passages(api.Passage{ID: id(1), Text: "x"}, api.Passage{ID: id(1), Text: "x"})
	for i, x := range []struct {
		w      api.Work
		s      page.Style
		change func(b *Book)
		e      api.Errno
	}{
		{bad, page.Style{}, func(b *Book) {}, api.ErrTwice}, {w, page.Style{}, func(b *Book) {}, api.ErrArg}, {w, page.Style{Width: 8, Height: 2, Wide: "0"}, func(b *Book) {}, api.ErrArg}, {w, style, func(b *Book) { b.Rounds = 99 }, api.OK}, {w, style, func(b *Book) { b.Marks = nil }, api.ErrArg}, {w, style, func(b *Book) { b.Marks[0].ID = id(1) }, api.ErrArg},
		{w, style, func(b *Book) { b.Marks[0].Page = 0 }, api.ErrArg}, {w, style, func(b *Book) { b.Marks[0].Page = 1000 }, api.ErrArg}, {w, style, func(b *Book) { b.Marks[0].Width = 1 }, api.ErrArg}, {w, style, func(b *Book) { b.Marks[0].Width = 4 }, api.ErrArg}, {w, style, func(b *Book) { b.Marks[0].Page = 12 }, api.ErrDiffer},
		{w, style, func(b *Book) { b.Pages = b.Pages[1:] }, api.ErrDiffer}, {w, style, func(b *Book) { b.Pages[0].Lines[0].Text = "x" }, api.ErrDiffer}, {w, style, func(b *Book) { b.Marks[0].Width = 3; b.Pages[0].Lines[1].Text = "see 011" }, api.OK},
	} {
		b, _ := Make(w, style)
		x.change(&b)
		if e := Check(x.w, x.s, b); e != x.e {
			t.Error("P36.3:", i, e)
		}
		if _, e := Make(x.w, x.s); i < 3 && e != x.e {
			t.Error("P36.2:", i, e)
		}
	}
	wide := page.Style{Width: 8, Height: 2, Wide: "elry"}
	long := passages(api.Passage{ID: id(1), Text: "lyrely @", Refs: []api.ID{id(1)}})
	if _, e := Make(long, wide); e != api.ErrWide {
		t.Error("P36.2:", e)
	}
	if e := Check(long, wide, Book{Marks: []page.Mark{{ID: id(1), Page: 1, Width: 1}}}); e != api.ErrWide {
		t.Error("P36.3:", e)
	}
}

func TestHolds(t *testing.T) {
	b, _ := Make(example(), style)
	for i, x := range []struct {
		d    Demand
		want bool
		e    api.Errno
	}{{Demand{Kind: By, N: 11, ID: id(9)}, true, api.OK}, {Demand{Kind: By, N: 10, ID: id(9)}, false, api.OK}, {Demand{Kind: From, N: 11, ID: id(9)}, true, api.OK}, {Demand{Kind: From, N: 12, ID: id(9)}, false, api.OK}, {Demand{Kind: Whole, ID: id(0)}, false, api.OK}, {Demand{Kind: Whole, ID: id(1)}, true, api.OK},
		{Demand{Kind: Pages, N: 11}, true, api.OK}, {Demand{Kind: Pages, N: 10}, false, api.OK}, {Demand{Kind: Pages, Volume: 5}, true, api.OK}, {Demand{Kind: Pages, Volume: 5, N: -1}, false, api.OK}, {Demand{Kind: 4}, false, api.ErrArg}, {Demand{Kind: -1}, false, api.ErrArg}, {Demand{Kind: By, ID: api.ID{By: -1}}, false, api.ErrNone}, {Demand{Kind: Whole, ID: id(50)}, false, api.ErrNone}} {
		if ok, e := Holds(b, x.d); ok != x.want || e != x.e {
			t.Error("P36.4:", i, ok, e)
		}
	}
}

func TestErrors(t *testing.T) {
	w := example()
	bad := passages(api.Passage{ID: id(1), Text: "x"}, api.Passage{ID: id(1), Text: "x"})
	for i, x := range []struct {
		w      api.Work
		styles []page.Style
		l      []Demand
		e      api.Errno
	}{{bad, make([]page.Style, 7), nil, api.ErrTwice}, {w, make([]page.Style, 7), []Demand{{Kind: 9}}, api.ErrLimit}, {w, nil, make([]Demand, 9), api.ErrLimit}, {w, nil, []Demand{{ID: id(50)}, {Kind: 4}}, api.ErrNone}, {w, nil, []Demand{{Kind: 4}, {ID: id(50)}}, api.ErrArg}, {w, nil, []Demand{{Kind: -1}}, api.ErrArg}} {
		n, b, e := Fit(x.w, x.styles, x.l)
		core, proof, e2 := Core(x.w, x.styles, x.l)
		if e3 := CheckCore(x.w, x.styles, x.l, []int{-1}, nil); e != x.e || e2 != e || e3 != e || n+len(core)+len(proof)+len(b.Pages) > 0 {
			t.Error("P36.5 to P36.7:", i, e, e2, e3)
		}
	}
	if _, _, e := Core(w, []page.Style{style}, nil); e != api.ErrDiffer {
		t.Error("P36.6:", e)
	}
	if core, proof, e := Core(w, []page.Style{{}}, []Demand{{Kind: Pages}}); len(core) > 0 || !slices.Equal(proof, []int{-1}) || e != api.OK || CheckCore(w, []page.Style{{}}, nil, core, proof) != api.OK {
		t.Error("P36.6: no book:", core, proof, e)
	}
	if core, proof, e := Core(w, nil, []Demand{{Kind: Pages}}); len(core)+len(proof) > 0 || e != api.OK {
		t.Error("P36.6: no style:", core, proof, e)
	}
	l := []Demand{{Kind: Pages, N: 11}, {Kind: Pages, N: 10}, {Kind: By, N: 9, ID: id(9)}}
	for i, x := range []struct {
		core, proof []int
		e           api.Errno
	}{{[]int{1}, []int{1, -1}, api.OK}, {[]int{1, 2}, []int{2, -1}, api.OK}, {[]int{2, 1}, []int{1, -1}, api.ErrArg}, {[]int{1, 1}, []int{1, -1}, api.ErrArg}, {[]int{3}, []int{1, -1}, api.ErrArg}, {[]int{-1}, []int{1, -1}, api.ErrArg}, {[]int{1}, []int{1}, api.ErrProof}, {[]int{1}, []int{2, -1}, api.ErrProof}, {[]int{0, 1}, []int{0, -1}, api.ErrProof}, {[]int{1}, []int{-1, -1}, api.ErrProof}, {[]int{1}, []int{1, 1}, api.ErrProof}, {[]int{1}, []int{99, -1}, api.ErrProof}} {
		if e := CheckCore(w, []page.Style{style, {}}, l, x.core, x.proof); e != x.e {
			t.Error("P36.7:", i, e)
		}
	}
}

func random(r *rand.Rand) api.Work {
	var w api.Work
	n := 0
	for range 1 + r.Intn(2) {
		a := api.Article{Title: "odes"}
		for range 10 + r.Intn(30) {
			p := api.Passage{ID: id(n % 60), Text: strings.TrimSpace(strings.Repeat("king @ ", 1+r.Intn(2)) + "of")}
			p.ID.By = n / 60
			p.Refs = slices.Repeat([]api.ID{id(r.Intn(50))}, strings.Count(p.Text, "@"))
			a.List = append(a.List, p)
			n++
		}
		w.List = append(w.List, api.Volume{List: []api.Article{a}})
	}
	return w
}

func TestProperties(t *testing.T) {
	r := rand.New(rand.NewSource(1))
	for range 60 {
		w := random(r)
		s := page.Style{Width: 8 + r.Intn(8), Height: 2 + r.Intn(3)}
		b, e := Make(w, s)
		if e != api.OK || Check(w, s, b) != api.OK || b.Rounds > 1+2*len(b.Marks) {
			t.Fatal("P36.8:", e, Check(w, s, b))
		}
		for _, m := range b.Marks {
			if at := page.Where(b.Pages, m.ID)[0]; b.Pages[at].Number != m.Page {
				t.Fatal("P36.8:", m)
			}
		}
		plain := work.Copy(w)
		for i := range plain.List {
			for k := range plain.List[i].List[0].List {
				refs := plain.List[i].List[0].List[k].Refs
				for n := range refs {
					refs[n] = api.ID{By: 5}
				}
			}
		}
		x, _ := Make(plain, s)
		if l, _ := page.Lay(plain, s, nil); x.Rounds != 1 || len(x.Marks) > 0 || !page.Same(l, x.Pages) {
			t.Fatal("P36.9")
		}
		styles := []page.Style{{Width: 8, Height: 3}, {Width: 10, Height: 3}, {Width: 14, Height: 4}, {}}[:r.Intn(5)]
		var l []Demand
		for range r.Intn(5) {
			l = append(l, Demand{Kind: r.Intn(4), N: r.Intn(30), ID: id(r.Intn(9))})
		}
		checkEither(t, w, styles, l)
	}
}

func checkEither(t *testing.T, w api.Work, styles []page.Style, l []Demand) {
	at, b, e := Fit(w, styles, l)
	core, proof, e2 := Core(w, styles, l)
	if (e == api.OK) == (e2 == api.OK) {
		t.Fatal("P36.10:", e, e2)
	}
	if e == api.OK {
		if want, _ := Make(w, styles[at]); !reflect.DeepEqual(want, b) {
			t.Fatal("P36.5")
		}
		if n, _, e := Fit(w, styles, append(slices.Clone(l), Demand{Kind: Pages, N: 12})); e == api.OK && n < at {
			t.Fatal("P36.11")
		}
		return
	}
	if CheckCore(w, styles, l, core, proof) != api.OK {
		t.Fatal("P36.10:", core, proof)
	}
	for set := range 1 << len(l) {
		var some []int
		var demands []Demand
		for i, d := range l {
			if set>>i&1 == 1 {
				some, demands = append(some, i), append(demands, d)
			}
		}
		_, _, e := Fit(w, styles, demands)
		if e == api.ErrClash && (len(some) < len(core) || len(some) == len(core) && slices.Compare(some, core) < 0) {
			t.Fatal("P36.6:", core, some)
		}
	}
	for i, k := range proof {
		if k >= 0 {
			b, _ := Make(w, styles[i])
			for _, c := range core {
				if ok, _ := Holds(b, l[c]); !ok {
					if c != k {
						t.Fatal("P36.6: not the first one:", core, proof)
					}
					break
				}
			}
		}
	}
}
