package columns

import (
	"math/rand"
	"reflect"
	"slices"
	"strings"
	"testing"

	"passim/api"
	"passim/collate"
	"passim/heading"
	"passim/page"
	"passim/refer"
	"passim/span"
)

func style() Style {
	s := Style{Page: page.Style{Width: 16, Height: 4}, Columns: 2, Spans: span.Style{Keep: 2}}
	for c := byte('a'); c <= 'z'; c++ {
		s.Order.Order = append(s.Order.Order, string([]byte{c, c - 32}))
	}
	return s
}

func row(volume int, main bool, from, to int) heading.Row {
	return heading.Row{Volume: volume, Main: main, List: []span.Span{{From: from, To: to}}}
}

func entry(rows []heading.Row, path ...string) heading.Entry {
	return heading.Entry{Path: path, Rows: rows}
}

func example() ([]heading.Entry, []refer.Ref) {
	return []heading.Entry{entry([]heading.Row{row(0, true, 3, 3), row(0, false, 7, 9)}, "king"), entry([]heading.Row{row(1, false, 12, 12)}, "king", "ode"), entry(nil, "Anna")},
		[]refer.Ref{{From: "ruler", To: "king"}, {From: "king", To: "Anna", Also: true}}
}

func TestExample(t *testing.T) {
	l, refs := example()
	want := []Line{{0, 2, "Anna"}, {0, 0, "king @"}, {4, 0, "1* 3; 1:"}, {4, 0, "7-9"}, {1, -2, "@also"}, {4, -2, "Anna"}, {1, 1, "ode @ 2:"}, {4, 1, "12"}, {0, -1, "ruler"}, {4, -1, "@see"}, {4, -1, "king"}}
	lines, e := Lines(style(), l, refs)
	if !slices.Equal(lines, want) || e != api.OK {
		t.Error("P35.2:", lines, e)
	}
	p, e := Lay(style(), l, refs)
	if pages := []Page{{[][]Line{want[:4], want[4:8]}}, {[][]Line{want[8:]}}}; !same(p, pages, true) || e != api.OK {
		t.Error("P35.3:", p, e)
	}
	if e := Check(style(), l, refs, p); e != api.OK {
		t.Error("P35.4:", e)
	}
	if s := Print(p); !slices.Equal(s, []string{"Anna\nking @\n        1* 3; 1:\n        7-9\n|\n  @also\n        Anna\n  ode @ 2:\n        12\n", "ruler\n        @see\n        king\n"}) {
		t.Error("P35.6:", s)
	}
	entries, read, e := Read(style(), p)
	if !heading.Same(entries, []heading.Entry{l[2], l[0], l[1]}) || !slices.Equal(read, []refer.Ref{refs[1], refs[0]}) || e != api.OK {
		t.Error("P35.5:", entries, read, e)
	}
	narrow := style()
	narrow.Columns = 1
	p, _ = Lay(narrow, l, refs)
	if len(p) != 4 || !slices.Equal(p[1].Columns[0], []Line{{5, -2, "king"}, {5, -2, "@cont"}, want[4], want[5]}) {
		t.Error("P35.3:", p)
	}
	if s := Print([]Page{{[][]Line{{{2, 0, "a"}, {3, 0, "b"}, {5, 0, "c"}, {-1, 0, "d"}, {9, 0, "e"}}, nil}}, {}}); !slices.Equal(s, []string{"    a\n      b\nc\nd\ne\n|\n", ""}) {
		t.Error("P35.6:", s)
	}
	p[1].Columns[0][1].Of = 7
	if e := Check(narrow, l, refs, p); e != api.ErrDiffer {
		t.Error("P35.4:", e)
	}
	if _, _, e := Read(narrow, p); e != api.OK {
		t.Error("P35.5: Of does not matter:", e)
	}
}

func TestStyles(t *testing.T) {
	for i, x := range []struct {
		change func(s *Style)
		e      api.Errno
	}{{func(s *Style) {}, api.OK}, {func(s *Style) { s.Page.Height = 1; s.Columns = 0 }, api.ErrArg}, {func(s *Style) { s.Page.Width = 15 }, api.ErrArg}, {func(s *Style) { s.Columns = 0 }, api.ErrArg}, {func(s *Style) { s.Columns = 9 }, api.ErrArg}, {func(s *Style) { s.Columns = 8 }, api.OK}, {func(s *Style) { s.Spans.Keep = 0 }, api.ErrArg}, {func(s *Style) { s.Order.Order[0] = "bb" }, api.ErrTwice}, {func(s *Style) { s.Spans.Keep = 0; s.Order.Order[0] = "bb" }, api.ErrArg}} {
		s := style()
		x.change(&s)
		_, e1 := Lines(s, nil, nil)
		p, e2 := Lay(s, nil, nil)
		_, _, e3 := Read(s, nil)
		if e := Valid(s); e != x.e || e1 != e || e2 != e || e3 != e || Check(s, nil, nil, p) != e {
			t.Error("P35.1:", i, e, e1, e2, e3)
		}
	}
}

func TestErrors(t *testing.T) {
	king := entry(nil, "king")
	long := strings.Repeat("x", 25)
	for i, x := range []struct {
		l    []heading.Entry
		refs []refer.Ref
		e    api.Errno
	}{
		{make([]heading.Entry, 257), nil, api.ErrLimit}, {nil, make([]refer.Ref, 257), api.ErrLimit}, {[]heading.Entry{{}}, nil, api.ErrArg}, {[]heading.Entry{entry(nil, "a", "b", "c", "d", "e")}, nil, api.ErrArg}, {[]heading.Entry{entry(nil, "@")}, nil, api.ErrArg}, {[]heading.Entry{entry(nil, long)}, nil, api.ErrArg},
		{[]heading.Entry{king, king}, nil, api.ErrArg}, {[]heading.Entry{entry(nil, "king", "ode")}, nil, api.ErrArg}, {[]heading.Entry{entry([]heading.Row{row(8, true, 1, 1)}, "king")}, nil, api.ErrArg}, {[]heading.Entry{entry([]heading.Row{row(-1, true, 1, 1)}, "king")}, nil, api.ErrArg}, {[]heading.Entry{entry([]heading.Row{{}}, "king")}, nil, api.ErrArg},
		{[]heading.Entry{entry([]heading.Row{row(0, true, 2, 1)}, "king")}, nil, api.ErrArg}, {[]heading.Entry{entry([]heading.Row{row(0, false, 1, 1), row(0, true, 1, 1)}, "king")}, nil, api.ErrArg}, {[]heading.Entry{entry([]heading.Row{row(0, true, 1, 1), row(0, true, 1, 1)}, "king")}, nil, api.ErrArg},
		{[]heading.Entry{entry([]heading.Row{{List: []span.Span{{From: 1, To: 1}, {From: 2, To: 2}}}}, "king")}, nil, api.ErrArg}, {[]heading.Entry{entry([]heading.Row{row(1, true, 1, 1), row(0, true, 1, 1)}, "king")}, nil, api.ErrArg}, {[]heading.Entry{king}, []refer.Ref{{From: "", To: "king"}}, api.ErrArg}, {[]heading.Entry{king}, []refer.Ref{{From: "a", To: "@"}}, api.ErrArg},
		{[]heading.Entry{king}, []refer.Ref{{From: "king", To: "king"}}, api.ErrName}, {[]heading.Entry{king}, []refer.Ref{{From: "a", To: "zz"}}, api.ErrNone}, {[]heading.Entry{entry([]heading.Row{row(0, true, 1, 9)}, "king")}, nil, api.OK}, {[]heading.Entry{entry(nil, "abcdefghi")}, nil, api.ErrWide}, {[]heading.Entry{entry(nil, "abcdefgh")}, nil, api.OK},
	} {
		p, e := Lay(style(), x.l, x.refs)
		l, e2 := Lines(style(), x.l, x.refs)
		if e != x.e || e2 != e || e != api.OK && len(p)+len(l) > 0 || Check(style(), x.l, x.refs, p) != e {
			t.Error("P35.2, P35.3, P35.4:", i, e, e2)
		}
	}
	clash := style()
	clash.Spans.Row = 3
	if _, e := Lines(clash, []heading.Entry{entry(nil, "abcdefghi"), entry([]heading.Row{row(0, true, 1, 9)}, "king")}, nil); e != api.ErrClash {
		t.Error("P35.2:", e)
	}
	var spans []span.Span
	for n := range 260 {
		spans = append(spans, span.Span{From: 3*n + 1, To: 3*n + 1})
	}
	if _, e := Lines(style(), []heading.Entry{entry(nil, "abcdefghi"), entry([]heading.Row{{List: spans}}, "king")}, nil); e != api.ErrLimit {
		t.Error("P35.2: too many units:", e)
	}
	low := style()
	low.Page.Height, low.Columns = 2, 1
	l, refs := example()
	if _, e := Lay(low, l, refs); e != api.ErrWide {
		t.Error("P35.3: a high heading:", e)
	}
	wide := style()
	wide.Page.Wide, wide.Columns = "@cnot", 1
	if _, e := Lay(wide, l[:1], nil); e != api.OK {
		t.Error("P35.3:", e)
	}
	var many []heading.Entry
	many = append(many, entry(nil, "a"))
	for i := range 200 {
		one := []span.Span{}
		for n := range 200 {
			one = append(one, span.Span{From: 3*n + 1, To: 3*n + 1})
		}
		many = append(many, entry([]heading.Row{{List: one}}, "a", string([]byte{byte('a' + i/20), byte('a' + i%20)})))
	}
	tiny := style()
	tiny.Columns, tiny.Page.Width = 1, 18
	if _, e := Lay(tiny, many, nil); e != api.ErrLimit {
		t.Error("P35.3: too many pages:", e)
	}
}

func TestRead(t *testing.T) {
	l, refs := example()
	p, _ := Lay(style(), l, refs)
	for i, change := range []func(p []Page) []Page{
		func(p []Page) []Page { return p[1:] }, func(p []Page) []Page { return append(p, Page{}) }, func(p []Page) []Page { p[0].Columns[0][0].Text = "Zeno"; return p }, func(p []Page) []Page { p[0].Columns[0][0].Text = ""; return p }, func(p []Page) []Page { p[0].Columns[0][0].Level = 1; return p }, func(p []Page) []Page { p[0].Columns[0][0].Level = 4; return p },
		func(p []Page) []Page { p[0].Columns[0][2].Text = "1* 3; 1;"; return p }, func(p []Page) []Page { p[0].Columns[0][2].Text = "1* 3;"; return p }, func(p []Page) []Page { p[0].Columns[0][3].Text = "7-8-9"; return p }, func(p []Page) []Page { p[1].Columns[0][1].Text = "@also"; return p }, func(p []Page) []Page { p[0].Columns[1][0].Level = -1; return p },
		func(p []Page) []Page { p[0].Columns[1] = p[0].Columns[1][:3]; return p }, func(p []Page) []Page { return []Page{{[][]Line{{{5, 0, "x"}}}}} }, func(p []Page) []Page { return []Page{{}} }, func(p []Page) []Page { return []Page{{[][]Line{{{1, 0, "@also x"}}}}} },
	} {
		var q []Page
		for _, x := range p {
			var y Page
			for _, c := range x.Columns {
				y.Columns = append(y.Columns, slices.Clone(c))
			}
			q = append(q, y)
		}
		if l, refs, e := Read(style(), change(q)); len(l)+len(refs) > 0 || e != api.ErrForm {
			t.Error("P35.5:", i, l, refs, e)
		}
	}
	if l, refs, e := Read(style(), nil); len(l)+len(refs) > 0 || e != api.OK {
		t.Error("P35.5:", e)
	}
}

func random(r *rand.Rand) ([]heading.Entry, []refer.Ref) {
	words := []string{"king", "King", "ode", "the ode", "anna", "b"}
	var l []heading.Entry
	for range r.Intn(9) {
		path := []string{}
		for range 1 + r.Intn(3) {
			path = append(path, words[r.Intn(6)])
			if heading.Find(l, path) >= 0 {
				continue
			}
			e := heading.Entry{Path: slices.Clone(path)}
			for v := range 2 {
				for _, main := range []bool{true, false} {
					if r.Intn(3) == 0 {
						e.Rows = append(e.Rows, row(v, main, 1+r.Intn(9), 10+r.Intn(200)))
					}
				}
			}
			l = append(l, e)
		}
	}
	var refs []refer.Ref
	for range r.Intn(9) {
		more := append(slices.Clone(refs), refer.Ref{From: words[r.Intn(6)], To: words[r.Intn(6)], Also: r.Intn(2) == 0})
		if _, e := refer.Valid(more, headings(l)); e == api.OK {
			refs = more
		}
	}
	return l, refs
}

func TestProperties(t *testing.T) {
	r := rand.New(rand.NewSource(1))
	for range 500 {
		l, refs := random(r)
		s := style()
		s.Page.Width, s.Page.Height, s.Columns, s.Order.Skip = 16+r.Intn(9), 3+r.Intn(5), 1+r.Intn(3), []string{"the"}
		p, e := Lay(s, l, refs)
		if e != api.OK {
			t.Fatal(e)
		}
		entries, read, e := Read(s, p)
		again, _ := Lay(s, entries, read)
		if e != api.OK || !same(again, p, false) || len(entries) != len(l) || len(read) != len(refs) {
			t.Fatal("P35.7:", l, refs, e)
		}
		for _, x := range entries {
			if i := heading.Find(l, x.Path); i < 0 || !heading.Same(l[i:i+1], []heading.Entry{x}) {
				t.Fatal("P35.7:", x)
			}
		}
		for _, x := range read {
			if !slices.Contains(refs, x) {
				t.Fatal("P35.7:", x)
			}
		}
		mixed, other := slices.Clone(l), slices.Clone(refs)
		r.Shuffle(len(mixed), func(i, j int) { mixed[i], mixed[j] = mixed[j], mixed[i] })
		r.Shuffle(len(other), func(i, j int) { other[i], other[j] = other[j], other[i] })
		if q, e := Lay(s, mixed, other); e == api.OK && !same(p, q, false) {
			t.Fatal("P35.9:", l, refs)
		}
		checkPages(t, s, p, l, refs)
	}
}

func checkPages(t *testing.T, s Style, p []Page, l []heading.Entry, refs []refer.Ref) {
	var all []Line
	last := ""
	for i, x := range p {
		if len(x.Columns) > s.Columns || len(x.Columns) == 0 || x.Columns[0][0].Level != 0 && x.Columns[0][0].Level != 5 {
			t.Fatal("P35.8, P35.10:", x)
		}
		for _, text := range strings.Split(Print(p)[i], "\n") {
			if len(text) > s.Page.Width {
				t.Fatal("P35.8: a wide line:", text)
			}
		}
		for k, c := range x.Columns {
			if len(c) > s.Page.Height || len(c) < s.Page.Height && (i < len(p)-1 || k < len(x.Columns)-1) {
				t.Fatal("P35.8:", c)
			}
			for n, y := range c {
				if y.Level == 5 {
					next := c[slices.IndexFunc(c, func(z Line) bool { return z.Level != 5 })]
					if k != 0 || next.Level == 0 || next.Of != y.Of || n == 0 && y.Text != "@cont" && !strings.HasPrefix(last, strings.Split(y.Text, " ")[0]) {
						t.Fatal("P35.10:", c)
					}
					continue
				}
				all = append(all, y)
				if y.Level == 0 {
					if n, _ := collate.Compare(s.Order, strings.Split(last, "@")[0], strings.Split(y.Text, "@")[0]); n > 0 && !strings.Contains(last+y.Text, "the") {
						t.Fatal("P35.10:", last, y)
					}
					last = y.Text
				}
			}
		}
	}
	if lines, _ := Lines(s, l, refs); !reflect.DeepEqual(lines, all) {
		t.Fatal("P35.8:", lines, all)
	}
}
