package page

import (
	"math/rand"
	"reflect"
	"slices"
	"strings"
	"testing"

	"passim/api"
	"passim/token"
	"passim/wire"
	"passim/work"
)

func id(by, seq, k int) api.ID { return api.ID{By: by, Seq: seq, K: k} }

var (
	a, b, c = id(0, 0, 0), id(0, 1, 0), id(0, 2, 0)
	style   = Style{Width: 10, Height: 3}
)

func example() api.Work {
	return api.Work{List: []api.Volume{{List: []api.Article{{Title: "Odes", List: []api.Passage{
		{ID: a, Text: "the king @", Refs: []api.ID{b}}, {ID: b, Form: api.Note, Text: "a lyre"}, {ID: c, Form: api.Plate, Text: "rome"},
	}}}}}}
}

func pages() []Page {
	return []Page{
		{0, 1, []Line{{id(-1, 0, 0), 0, 0, "Odes"}, {a, 0, 2, "the king"}}, nil},
		{0, 2, []Line{{a, 2, 3, "07"}}, []Line{{b, 0, 2, "a lyre"}}},
		{0, 3, []Line{{c, 0, 1, "rome"}}, nil},
	}
}

func TestExample(t *testing.T) {
	marks := []Mark{{b, 7, 2}}
	l, e := Lay(example(), style, marks)
	if !Same(l, pages()) || e != api.OK {
		t.Error("P13.3:", l, e)
	}
	if l, _ := Lay(example(), Style{Width: 10, Height: 2}, marks); !Same(l, pages()) {
		t.Error("P13.3:", l)
	}
	if e := Check(example(), style, marks, l); e != api.OK {
		t.Error("P13.4:", e)
	}
	if e := Check(example(), style, nil, l); e != api.ErrDiffer {
		t.Error("P13.4:", e)
	}
	if Last(l[0]) != "king" || Last(Page{}) != "" || Last(Page{Lines: []Line{{Text: " x yz "}}}) != "yz" || Last(Page{Lines: []Line{{Text: " "}}}) != "" {
		t.Error("P13.5: Last")
	}
	if ids := On(l[1]); !slices.Equal(ids, []api.ID{a, b}) || !slices.Equal(On(l[0]), []api.ID{a}) {
		t.Error("P13.5:", ids)
	}
	if w := Where(l, a); !slices.Equal(w, []int{0, 1}) || len(Where(l, id(-1, 0, 0))) != 0 {
		t.Error("P13.5:", w)
	}
	l, _ = Lay(example(), Style{Width: 9, Height: 2}, []Mark{{b, 1000, 0}})
	if l[1].Lines[0].Text != "?" {
		t.Error("P13.2:", l)
	}
}

func TestShown(t *testing.T) {
	p := api.Passage{Text: "@ (@) @  ", Refs: []api.ID{b, a}}
	for i, x := range []struct {
		marks []Mark
		want  string
	}{{nil, "? (?) ?  "}, {[]Mark{{b, 0, 0}, {b, 1000, 0}, {b, 5, 4}, {b, 5, -1}, {b, 5, 3}, {b, 6, 0}, {a, 999, 1}}, "005 (999) ?  "}, {[]Mark{{a, 12, 0}}, "? (12) ?  "}} {
		if s := Shown(p, x.marks); s != x.want {
			t.Error("P13.2:", i, s)
		}
	}
	if n := Measure(Style{Wide: "Wm "}, "Warm mW"); n != 7+5 {
		t.Error("P13.1:", n)
	}
}

func TestStyles(t *testing.T) {
	for i, x := range []struct {
		s Style
		e api.Errno
	}{{style, api.OK}, {Style{8, 2, "MW"}, api.OK}, {Style{240, 120, "!~"}, api.OK}, {Style{7, 2, ""}, api.ErrArg}, {Style{241, 2, ""}, api.ErrArg}, {Style{8, 1, ""}, api.ErrArg}, {Style{8, 121, ""}, api.ErrArg}, {Style{8, 2, " "}, api.ErrArg}, {Style{8, 2, "\x7f"}, api.ErrArg}, {Style{8, 2, "WM"}, api.ErrArg}, {Style{8, 2, "MM"}, api.ErrArg}} {
		if e := Valid(x.s); e != x.e {
			t.Error("P13.1:", i, e)
		}
		if _, e := Lay(api.Work{}, x.s, nil); e != x.e {
			t.Error("P13.3:", i, e)
		}
	}
}

func TestErrors(t *testing.T) {
	set := func(change func(l *[]api.Passage)) api.Work {
		w := example()
		change(&w.List[0].List[0].List)
		return w
	}
	for i, x := range []struct {
		w     api.Work
		style Style
		e     api.Errno
	}{
		{set(func(l *[]api.Passage) { (*l)[0].Refs = nil }), Style{}, api.ErrArg},
		{set(func(l *[]api.Passage) { (*l)[1].ID = a }), Style{}, api.ErrTwice},
		{set(func(l *[]api.Passage) { (*l)[1].Text = "a lyrelyrelyre" }), style, api.ErrWide},
		{set(func(l *[]api.Passage) { (*l)[1].Text = strings.Repeat("x", 4096) }), Style{240, 3, "x"}, api.ErrWide},
		{set(func(l *[]api.Passage) { (*l)[1].Text = "a lyre" }), Style{10, 3, "adehik"}, api.OK},
		{set(func(l *[]api.Passage) { (*l)[1].Text = "lyrelyrely l" }), Style{10, 2, ""}, api.ErrWide},
		{set(func(l *[]api.Passage) { (*l)[2].Text = "one two three four five six" }), style, api.OK},
		{set(func(l *[]api.Passage) { (*l)[2].Text = "one two three four five six" }), Style{10, 2, ""}, api.ErrWide},
	} {
		if l, e := Lay(x.w, x.style, nil); e != x.e || (e == api.OK) != (len(l) > 0) || Check(x.w, x.style, nil, l) != e {
			t.Error("P13.3:", i, e)
		}
	}
	long := example()
	for i := range 1000 {
		long.List[0].List[0].List = append(long.List[0].List[0].List, api.Passage{ID: id(1, 0, i), Form: api.Plate, Text: "x"})
	}
	if _, e := Lay(long, style, nil); e != api.ErrLimit {
		t.Error("P13.3:", e)
	}
	long.List[0].List[0].List[500].Text = strings.Repeat("x", 11)
	if _, e := Lay(long, style, nil); e != api.ErrWide {
		t.Error("P13.3: ErrWide comes first:", e)
	}
	title := api.Work{List: []api.Volume{{}, {List: []api.Article{{Title: "Odes of the king"}, {Title: "x", List: []api.Passage{{ID: a, Form: api.Plate, Text: "p"}}}, {Title: "y", List: []api.Passage{{ID: b, Text: "q"}}}}}}}
	want := []Page{{1, 1, []Line{{id(-1, 0, 0), 0, 0, "Odes of"}, {id(-1, 0, 0), 0, 0, "the king"}, {id(-1, 0, 0), 0, 0, "x"}}, nil}, {1, 2, []Line{{a, 0, 1, "p"}}, nil}, {1, 3, []Line{{id(-1, 0, 0), 0, 0, "y"}, {b, 0, 1, "q"}}, nil}}
	if l, e := Lay(title, style, nil); !Same(l, want) || e != api.OK {
		t.Error("P13.3: titles:", l, e)
	}
}

func random(r *rand.Rand) api.Work {
	var w api.Work
	n := 0
	for range 1 + r.Intn(3) {
		var v api.Volume
		for range r.Intn(4) {
			art := api.Article{Title: "Odes"}
			for k := range r.Intn(6) {
				p := api.Passage{ID: id(1, n, 0), Form: []int{0, 0, 1, 1, 2, 3}[r.Intn(6)]}
				if p.Form == api.Note && (k == 0 || art.List[k-1].Form == api.Plate) {
					p.Form = api.Para
				}
				for range 1 + r.Intn(5) {
					p.Text += []string{"a ", "king, ", "@ ", "lyre. ", "(@) "}[r.Intn(5)]
				}
				p.Text = strings.TrimSuffix(p.Text, " ")
				p.Refs = slices.Repeat([]api.ID{id(1, r.Intn(5), 0)}, strings.Count(p.Text, "@"))
				art.List = append(art.List, p)
				n++
			}
			v.List = append(v.List, art)
		}
		w.List = append(w.List, v)
	}
	return w
}

func TestProperties(t *testing.T) {
	r := rand.New(rand.NewSource(1))
	for n := 0; n < 300; {
		w, s := random(r), Style{10 + r.Intn(6), 6 + r.Intn(9), ""}
		marks, others := []Mark{{id(1, 1, 0), 12, 0}, {id(1, 3, 0), 7, 3}}, []Mark{{id(1, 1, 0), 99, 0}, {id(1, 3, 0), 123, 3}}
		l, e := Lay(w, s, marks)
		if e == api.ErrWide {
			continue
		}
		n++
		m, _ := Lay(w, s, others)
		checkPages(t, w, s, l, marks)
		for i, p := range l {
			for k, x := range p.Lines {
				y := m[i].Lines[k]
				if x.ID != y.ID || x.From != y.From || x.To != y.To || len(x.Text) != len(y.Text) {
					t.Fatal("P13.10:", x, y)
				}
			}
			for _, at := range On(p) {
				if !slices.Contains(Where(l, at), i) {
					t.Fatal("P13.11:", at, i)
				}
			}
		}
		if len(w.List) > 1 {
			alone := api.Work{List: slices.Clone(w.List)}
			alone.List[0] = api.Volume{}
			var rest []Page
			for _, p := range l {
				if p.Volume > 0 {
					rest = append(rest, p)
				}
			}
			if m, _ := Lay(alone, s, marks); !Same(m, rest) {
				t.Fatal("P13.11: volumes")
			}
		}
	}
}

func checkPages(t *testing.T, w api.Work, s Style, l []Page, marks []Mark) {
	lines, at := map[api.ID][]Line{}, map[api.ID]int{}
	plate := func(p Page) bool {
		spot, ok := work.Find(w, p.Lines[0].ID)
		q, _ := work.At(w, spot)
		return ok && q.Form == api.Plate
	}
	for i, p := range l {
		if n := len(p.Lines) + len(p.Notes); n == 0 || n > s.Height {
			t.Fatal("P13.7:", p)
		}
		if i > 0 && l[i-1].Volume == p.Volume && (p.Number != l[i-1].Number+1 || !plate(p) && !plate(l[i-1]) && len(l[i-1].Lines)+len(l[i-1].Notes)+1 <= s.Height && len(p.Lines) == 1 && len(p.Notes) == 0 && p.Lines[0].ID.By >= 0) {
			t.Fatal("P13.8:", l[i-1], p)
		}
		for _, x := range slices.Concat(p.Lines, p.Notes) {
			lines[x.ID] = append(lines[x.ID], x)
			at[x.ID] = i
			if Measure(s, x.Text) > s.Width {
				t.Fatal("P13.7:", x)
			}
		}
	}
	last := api.ID{}
	for _, p := range work.All(w) {
		text, token0 := "", 0
		for _, x := range lines[p.ID] {
			if x.From != token0 {
				t.Fatal("P13.7:", x)
			}
			text, token0 = text+" "+x.Text, x.To
		}
		if token0 != len(token.Split(p.Text)) || text[1:] != Shown(p, marks) {
			t.Fatal("P13.7:", p, text)
		}
		if p.Form != api.Note {
			last = p.ID
		} else if where := Where(l, p.ID); len(where) != 1 || where[0] != at[last] {
			t.Fatal("P13.9:", p)
		}
	}
}

func TestBytes(t *testing.T) {
	l := pages()[1:2]
	want := slices.Concat(wire.Int(1), wire.Ints([]int{0, 2, 1, 1}), wire.Ints([]int{0, 0, 0, 2, 3}), wire.Bytes("07"), wire.Ints([]int{0, 1, 0, 0, 2}), wire.Bytes("a lyre"))
	if got := Encode(l); !slices.Equal(got, want) {
		t.Error("P13.6:", got)
	}
	for i, change := range []func(p *Page){func(p *Page) { p.Volume++ }, func(p *Page) { p.Number++ }, func(p *Page) { p.Lines = nil }, func(p *Page) { p.Notes[0].Text = "" }, func(p *Page) { p.Notes[0].To++ }} {
		m := pages()[1:2]
		change(&m[0])
		if Same(l, m) || reflect.DeepEqual(Encode(l), Encode(m)) {
			t.Error("P13.6:", i)
		}
	}
	if !Same([]Page{{Lines: []Line{}}}, []Page{{}}) || Same(l, nil) {
		t.Error("P13.6")
	}
}
