package locator

import (
	"math"
	"math/rand"
	"reflect"
	"slices"
	"strings"
	"testing"

	"passim/api"
	"passim/page"
	"passim/printing"
	"passim/span"
)

var style = span.Style{Keep: 2}

func pages(from, to int) Range { return Range{Point{from, 0}, Point{to, 0}} }

func passages(p, k, q, l int) Range { return Range{Point{p, k}, Point{q, l}} }

func TestText(t *testing.T) {
	for want, l := range map[string]Locator{
		"e3ac:2:214-18:74":      {"e3ac", 1, []Range{pages(214, 218)}},
		"e0:1:3, 7.2-8.1:05":    {"e0", 0, []Range{pages(3, 3), passages(7, 2, 8, 1)}},
		"e0:1:3:62":             {"e0", 0, []Range{pages(3, 3)}},
		"e15l:8:1, 3-4, 7.99:?": {"e15l", 7, []Range{pages(1, 1), pages(3, 4), passages(7, 99, 7, 99)}},
	} {
		got, e := Print(style, l)
		if strings.HasSuffix(want, "?") {
			want = want[:len(want)-1] + got[len(got)-2:]
		}
		if got != want || e != api.OK {
			t.Error("P20.2:", got, e)
		}
		if back, e := Parse(style, got); !Same(back, l) || e != api.OK {
			t.Error("P20.3, P20.7:", back, e)
		}
	}
	if l, e := Parse(style, "e0:1:4:62"); e != api.ErrSum || !Same(l, Locator{}) {
		t.Error("P20.3:", e)
	}
}

func TestValid(t *testing.T) {
	one := []Range{pages(3, 3)}
	for i, x := range []struct {
		l Locator
		e api.Errno
	}{
		{Locator{"e0", 0, one}, api.OK}, {Locator{"e15abcdefghijkl", 7, one}, api.OK}, {Locator{"e16", 0, one}, api.ErrArg}, {Locator{"e01", 0, one}, api.ErrArg}, {Locator{"", 0, one}, api.ErrArg}, {Locator{"e", 0, one}, api.ErrArg}, {Locator{"0", 0, one}, api.ErrArg}, {Locator{"e0m", 0, one}, api.ErrArg},
		{Locator{"e0ba", 0, one}, api.ErrArg}, {Locator{"e0aa", 0, one}, api.ErrArg}, {Locator{"e0a1", 0, one}, api.ErrArg}, {Locator{"e0", 8, one}, api.ErrArg}, {Locator{"e0", -1, one}, api.ErrArg}, {Locator{"e0", 0, nil}, api.ErrArg}, {Locator{"e-1", 0, one}, api.ErrArg}, {Locator{"e+1", 0, one}, api.ErrArg},
		{Locator{"e0", 0, []Range{pages(0, 1)}}, api.ErrArg}, {Locator{"e0", 0, []Range{pages(1, 1000)}}, api.ErrArg}, {Locator{"e0", 0, []Range{pages(2, 1)}}, api.ErrArg}, {Locator{"e0", 0, []Range{passages(1, 1, 1, 0)}}, api.ErrArg}, {Locator{"e0", 0, []Range{passages(1, 0, 1, 1)}}, api.ErrArg},
		{Locator{"e0", 0, []Range{passages(1, 100, 2, 1)}}, api.ErrArg}, {Locator{"e0", 0, []Range{passages(1, 2, 1, 1)}}, api.ErrArg}, {Locator{"e0", 0, []Range{passages(1, 2, 2, 1)}}, api.OK}, {Locator{"e0", 0, []Range{passages(1, -1, 2, 1)}}, api.ErrArg},
		{Locator{"e0", 0, []Range{pages(1, 2), pages(3, 4)}}, api.ErrArg}, {Locator{"e0", 0, []Range{pages(1, 2), pages(4, 4)}}, api.OK}, {Locator{"e0", 0, []Range{pages(1, 2), passages(3, 1, 3, 1)}}, api.OK}, {Locator{"e0", 0, []Range{pages(1, 2), passages(2, 1, 3, 1)}}, api.ErrArg},
		{Locator{"e0", 0, []Range{passages(1, 1, 2, 1), pages(2, 3)}}, api.ErrArg}, {Locator{"e0", 0, []Range{passages(1, 1, 2, 1), pages(3, 3)}}, api.OK}, {Locator{"e0", 0, []Range{passages(1, 1, 2, 1), passages(2, 2, 2, 2)}}, api.OK}, {Locator{"e0", 0, []Range{passages(1, 1, 2, 1), passages(2, 1, 2, 2)}}, api.ErrArg},
		{Locator{"e0", 0, []Range{passages(math.MinInt, 1, math.MaxInt, 1)}}, api.ErrArg}, {Locator{"e0", 0, slices.Repeat(one, 100)}, api.ErrArg},
	} {
		if e := Valid(x.l); e != x.e {
			t.Error("P20.1:", i, e)
		}
		if s, e := Print(style, x.l); e != x.e || (s == "") != (e != api.OK) {
			t.Error("P20.2:", i, s, e)
		}
		if s, e := Spans(x.l); e != x.e || (len(s) == 0) != (e != api.OK) {
			t.Error("P20.4:", i, s, e)
		}
	}
	if s, _ := Spans(Locator{"e0", 0, []Range{pages(1, 2), passages(3, 1, 4, 2), passages(9, 1, 9, 1)}}); !slices.Equal(s, []span.Span{{From: 1, To: 4}, {From: 9, To: 9}}) {
		t.Error("P20.4:", s)
	}
	if Same(Locator{"e0", 0, one}, Locator{"e0", 1, one}) || Same(Locator{"e0", 0, one}, Locator{"e1", 0, one}) || Same(Locator{"e0", 0, one}, Locator{"e0", 0, nil}) {
		t.Error("P20.1")
	}
}

func TestErrors(t *testing.T) {
	l := Locator{"e0", 0, []Range{pages(4, 9)}}
	if _, e := Print(span.Style{}, l); e != api.ErrArg {
		t.Error("P20.2:", e)
	}
	if _, e := Print(span.Style{Keep: 1, Row: 3}, l); e != api.ErrClash {
		t.Error("P20.2:", e)
	}
	long := Locator{Mark: "e0"}
	for i := range 60 {
		long.List = append(long.List, pages(101+2*i, 101+2*i))
	}
	if _, e := Print(style, long); e != api.ErrLimit {
		t.Error("P20.2:", e)
	}
	with := func(text string) string { return text + ":" + checkSum(text) }
	for i, x := range []struct {
		t string
		e api.Errno
	}{{"", api.ErrForm}, {":62", api.ErrForm}, {strings.Repeat("1", 257) + ":00", api.ErrForm}, {"e0:1:3\x7f:00", api.ErrForm}, {"e0:1:3;62", api.ErrForm}, {"e0:1:3:6a", api.ErrForm}, {"e0:1:3:63", api.ErrSum}, {with("e0:1:03"), api.ErrForm}, {with("e0:1:"), api.ErrForm}, {with("e0:0:3"), api.ErrForm}, {with("e0:9:3"), api.ErrForm},
		{with("e0:01:3"), api.ErrForm}, {with("e0:1:3.0"), api.ErrForm}, {with("e0:1:3.1-3.1"), api.ErrForm}, {with("e0:1:3.1.2"), api.ErrForm}, {with("e0:1:3.1-4"), api.ErrForm}, {with("e0:1:3,4"), api.ErrForm}, {with("e0:1:3, 4"), api.ErrForm}, {with("e0:1:3, "), api.ErrForm}, {with("e0:1"), api.ErrForm}, {with("e0"), api.ErrForm}, {with("f0:1:3"), api.ErrForm},
		{with("e0:1:3:4"), api.ErrForm}, {with("e0:1:+3.1"), api.ErrForm}, {with("e0:1:3.1, 4-5, 9.1-10.2"), api.OK}} {
		if l, e := Parse(style, x.t); e != x.e || e != api.OK && !Same(l, Locator{}) {
			t.Error("P20.3:", i, x.t, e)
		}
	}
	if _, e := Parse(span.Style{}, ""); e != api.ErrArg {
		t.Error("P20.3:", e)
	}
}

func TestSlips(t *testing.T) {
	r := rand.New(rand.NewSource(1))
	s := span.Style{Keep: 1, Next: true, Passim: 3}
	for range 300 {
		l := Locator{Mark: "e4bd", Volume: r.Intn(8)}
		at := 0
		for range 1 + r.Intn(6) {
			at += 2 + r.Intn(30)
			x := pages(at, at+r.Intn(20))
			if r.Intn(3) == 0 {
				x = passages(at, 1+r.Intn(9), at+r.Intn(2), 10+r.Intn(9))
			}
			l.List, at = append(l.List, x), x.To.Page
		}
		text, e := Print(s, l)
		if e == api.ErrClash {
			continue
		}
		if back, e2 := Parse(s, text); e != api.OK || e2 != api.OK || !Same(back, l) {
			t.Fatal("P20.7:", l, text, e, e2)
		}
		for range 50 {
			b := []byte(text)
			i := r.Intn(len(b) - 1)
			if r.Intn(2) == 0 {
				b[i] = byte(32 + r.Intn(95))
			} else {
				b[i], b[i+1] = b[i+1], b[i]
			}
			if _, e := Parse(s, string(b)); e == api.OK && string(b) != text {
				t.Fatal("P20.8:", text, string(b))
			}
		}
	}
}

var a, b, c, d = api.ID{Seq: 1}, api.ID{Seq: 2}, api.ID{Seq: 3}, api.ID{Seq: 4}

func leafPage(volume, number int, ids ...api.ID) page.Page {
	p := page.Page{Volume: volume, Number: number}
	for _, id := range ids {
		p.Lines = append(p.Lines, page.Line{ID: id, To: 1, Text: "x"})
	}
	return p
}

func example() printing.Issue {
	pages := []page.Page{leafPage(0, 1, a), leafPage(0, 2, b), leafPage(0, 3, c), leafPage(2, 1, d)}
	return printing.Issue{Edition: 3, Pages: pages, Changes: []printing.Change{
		{Kind: printing.Cancel, At: 1, Pages: []page.Page{leafPage(0, 1, a, c), pages[1]}},
		{Kind: printing.Slip, At: 3, Pages: []page.Page{leafPage(0, 3, a)}}, {Kind: printing.Lose, At: 2}, {Kind: printing.Missing, Volume: 2},
	}, States: [][]int{nil, {0, 1}, {2}, {1, 2, 3}}}
}

func TestOf(t *testing.T) {
	x := example()
	for i, v := range []struct {
		state int
		ids   []api.ID
		want  []Locator
		e     api.Errno
	}{
		{0, []api.ID{d, c, b, a}, []Locator{{"e3", 0, []Range{pages(1, 3)}}, {"e3", 2, []Range{pages(1, 1)}}}, api.OK},
		{1, []api.ID{c}, []Locator{{"e3ab", 0, []Range{passages(1, 2, 1, 2)}}}, api.OK},
		{1, []api.ID{c, a}, []Locator{{"e3ab", 0, []Range{pages(1, 1), pages(3, 3)}}}, api.OK},
		{1, []api.ID{a, b}, []Locator{{"e3ab", 0, []Range{passages(1, 1, 1, 1), pages(2, 2)}}}, api.OK},
		{3, []api.ID{a}, []Locator{{"e3bcd", 0, []Range{pages(1, 1)}}}, api.OK},
		{3, []api.ID{c}, nil, api.ErrNone}, {0, []api.ID{{By: -1}}, nil, api.ErrNone}, {0, nil, nil, api.OK}, {4, []api.ID{{}}, nil, api.ErrNone},
	} {
		if l, e := Of(x, v.state, v.ids); !slices.EqualFunc(l, v.want, Same) || e != v.e {
			t.Error("P20.6:", i, l, e)
		}
	}
	var many []api.ID
	for k := range 120 {
		many = append(many, api.ID{K: k})
	}
	big := printing.Issue{Pages: []page.Page{leafPage(0, 1, many...)}, States: [][]int{nil}}
	if _, e := Of(big, 0, many[100:101]); e != api.ErrLimit {
		t.Error("P20.6:", e)
	}
	if l, e := Of(big, 0, many[97:99]); len(l) != 1 || e != api.OK {
		t.Error("P20.6:", e)
	}
	bad := example()
	bad.States = nil
	if _, e := Of(bad, 0, nil); e != api.ErrArg {
		t.Error("P20.6:", e)
	}
	if _, e := On(bad, 0, Locator{}); e != api.ErrArg {
		t.Error("P20.5:", e)
	}
}

func TestOn(t *testing.T) {
	x := example()
	for i, v := range []struct {
		state int
		l     Locator
		want  []api.ID
		e     api.Errno
	}{
		{0, Locator{"e3", 0, []Range{pages(1, 3)}}, []api.ID{a, b, c}, api.OK},
		{1, Locator{"e3ab", 0, []Range{passages(1, 2, 2, 1)}}, []api.ID{c, b}, api.OK},
		{1, Locator{"e3ab", 0, []Range{passages(1, 2, 3, 1)}}, []api.ID{c, b}, api.OK},
		{1, Locator{"e3ab", 0, []Range{passages(1, 2, 1, 2), passages(3, 2, 3, 2)}}, []api.ID{a, c}, api.OK},
		{3, Locator{"e3bcd", 0, []Range{pages(3, 3)}}, nil, api.OK},
		{3, Locator{"e3bcd", 0, []Range{passages(3, 1, 3, 1)}}, nil, api.ErrRange},
		{0, Locator{"e3", 0, []Range{pages(1, 4)}}, nil, api.ErrRange}, {0, Locator{"e3", 1, []Range{pages(1, 1)}}, nil, api.ErrRange}, {0, Locator{"e3", 0, []Range{passages(1, 2, 2, 1)}}, nil, api.ErrRange},
		{0, Locator{"e3a", 0, []Range{pages(1, 9)}}, nil, api.ErrStale}, {0, Locator{"e3", 0, nil}, nil, api.ErrArg}, {5, Locator{}, nil, api.ErrNone},
	} {
		if l, e := On(x, v.state, v.l); !slices.Equal(l, v.want) || e != v.e {
			t.Error("P20.5:", i, l, e)
		}
	}
}

func TestPages(t *testing.T) {
	x := example()
	for state := range x.States {
		code, _ := printing.Code(x, state)
		c, _ := printing.Read(x, state)
		for _, list := range [][]Range{{pages(1, 1)}, {pages(1, 3)}, {pages(1, 1), pages(3, 3)}, {pages(2, 3)}} {
			l := Locator{code, 0, list}
			named, e := On(x, state, l)
			spans, _ := Spans(l)
			on := map[int]bool{}
			for _, n := range span.Pages(spans) {
				on[n-1] = true
			}
			for _, id := range printing.Has(c) {
				stands := slices.ContainsFunc(printing.Where(c, id), func(i int) bool { return on[i] })
				if slices.Contains(named, id) != stands || e != api.OK {
					t.Error("P20.10:", state, list, id, e)
				}
			}
			if last := list[len(list)-1]; last.To.Page < 3 {
				further := append(slices.Clone(list), pages(last.To.Page+2, last.To.Page+2))
				if more, e := On(x, state, Locator{code, 0, further}); e == api.OK && len(more) < len(named) {
					t.Error("P20.10: a further range:", state, list)
				}
			}
		}
	}
}

func TestExactly(t *testing.T) {
	r := rand.New(rand.NewSource(2))
	for range 500 {
		x := printing.Issue{Edition: 1, States: [][]int{nil, {0}, {1}, {0, 1}}}
		for n := range 6 {
			p := leafPage(n/4, n%4+1)
			for range r.Intn(4) {
				p.Lines = append(p.Lines, page.Line{ID: api.ID{K: r.Intn(8)}})
			}
			x.Pages = append(x.Pages, p)
		}
		x.Changes = []printing.Change{{Kind: printing.Lose, At: 1}, {Kind: printing.Slip, Volume: 1, At: 1, Pages: []page.Page{leafPage(1, 1, api.ID{K: 3})}}}
		state := r.Intn(4)
		read, _ := printing.Read(x, state)
		var ids []api.ID
		for _, id := range printing.Has(read) {
			if r.Intn(3) > 0 {
				ids = append(ids, id)
			}
		}
		mixed := slices.Clone(ids)
		r.Shuffle(len(mixed), func(i, j int) { mixed[i], mixed[j] = mixed[j], mixed[i] })
		l, e := Of(x, state, mixed)
		named := map[api.ID]bool{}
		for _, one := range l {
			some, e := On(x, state, one)
			if Valid(one) != api.OK || e != api.OK {
				t.Fatal("P20.9:", one, e)
			}
			for _, id := range some {
				named[id] = true
			}
		}
		want := map[api.ID]bool{}
		for _, id := range ids {
			want[id] = true
		}
		if e != api.OK || !reflect.DeepEqual(named, want) {
			t.Fatal("P20.9:", ids, l, e)
		}
	}
}
