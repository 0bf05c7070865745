package span

import (
	"cmp"
	"math"
	"math/rand"
	"slices"
	"testing"

	"passim/api"
)

func TestExamples(t *testing.T) {
	for i, x := range []struct {
		s    Style
		l    []Span
		form string
		e    api.Errno
	}{
		{Style{Keep: 2}, []Span{{7, 7}, {12, 18}, {214, 218}}, "7, 12-18, 214-18", api.OK},
		{Style{Keep: 1, Next: true}, []Span{{12, 13}, {98, 102}, {214, 218}}, "12f, 98-102, 214-8", api.OK},
		{Style{Keep: 1, Row: 3}, []Span{{4, 6}}, "4ff", api.OK},
		{Style{Keep: 1, Row: 3}, []Span{{4, 9}}, "", api.ErrClash},
		{Style{Keep: 1, Passim: 3}, []Span{{1, 1}, {3, 3}, {5, 5}, {9, 9}}, "1-5 passim, 9", api.OK},
		{Style{Keep: 1, Row: 2, Next: true}, []Span{{4, 5}}, "4ff", api.OK},
		{Style{Keep: 3}, []Span{{214, 218}, {300, 999}}, "214-218, 300-999", api.OK},
		{Style{Keep: 1}, nil, "", api.OK},
		{Style{Keep: 0}, []Span{{9, 1}}, "", api.ErrArg},
		{Style{Keep: 1}, []Span{{1, 2}, {3, 4}}, "", api.ErrArg},
		{Style{Keep: 1}, []Span{{0, 2}}, "", api.ErrArg},
		{Style{Keep: 1}, []Span{{1, 1000}}, "", api.ErrArg},
		{Style{Keep: 1}, []Span{{math.MinInt, math.MaxInt}}, "", api.ErrArg},
	} {
		form, e := Print(x.s, x.l)
		if form != x.form || e != x.e {
			t.Error("P19.3:", i, form, e)
		}
		if l, e := Parse(x.s, form); x.e == api.OK && (!slices.Equal(l, x.l) || e != api.OK) {
			t.Error("P19.4:", i, l, e)
		}
	}
}

func TestStyles(t *testing.T) {
	for i, x := range []struct {
		s Style
		e api.Errno
	}{{Style{1, false, 0, 0}, api.OK}, {Style{3, true, 999, 500}, api.OK}, {Style{4, false, 0, 0}, api.ErrArg}, {Style{0, false, 0, 0}, api.ErrArg}, {Style{1, false, 1, 0}, api.ErrArg}, {Style{1, false, 1000, 0}, api.ErrArg}, {Style{1, false, 0, 1}, api.ErrArg}, {Style{1, false, 0, 501}, api.ErrArg}, {Style{1, false, -1, 0}, api.ErrArg}} {
		_, e2 := Parse(x.s, "")
		_, _, ok, e3 := Unique(x.s, 1)
		if e := Valid(x.s); e != x.e || e2 != e || e3 != e || ok != (e == api.OK) || Check(x.s, 1, nil, nil) != max(e, api.ErrProof) && e == api.OK {
			t.Error("P19.1:", i, e, e2, e3)
		}
	}
}

func TestNormal(t *testing.T) {
	if l, e := Normal([]Span{{9, 9}, {1, 3}, {4, 5}, {2, 2}, {9, 11}}); !slices.Equal(l, []Span{{1, 5}, {9, 11}}) || e != api.OK {
		t.Error("P19.2:", l, e)
	}
	for _, x := range []Span{{0, 1}, {2, 1}, {1, 1000}} {
		if l, e := Normal([]Span{{1, 1}, x}); len(l) > 0 || e != api.ErrRange {
			t.Error("P19.2:", l, e)
		}
	}
	if l := Pages([]Span{{math.MinInt, 2}, {5, 4}, {998, math.MaxInt}, {2, 3}}); !slices.Equal(l, []int{1, 2, 3, 998, 999}) {
		t.Error("P19.2:", l)
	}
}

func TestParse(t *testing.T) {
	s := Style{Keep: 1, Next: true, Row: 4, Passim: 3}
	for _, bad := range []string{" ", "0", "01", "1,2", "1,  3", "1, 2", "3, 1", "1-1", "12-13", "12-12", "12-1", "9-8", "1000", "1-", "-1", "f", "ff", "fff", "1fff", "1-2f", "1 passim", "1f passim", "1-4 passim", "1-3 passim", "a", "1, ", ", 1", "999f", "997ff", "214-218", "1-5 passim passim", "1-3-5", "1ff passim", "1,", "+1", "1-1000", "998-9 passim", "1, 3, 5"} {
		if l, e := Parse(s, bad); len(l) > 0 || e != api.ErrForm {
			t.Error("P19.4:", bad, l, e)
		}
	}
	for good, want := range map[string][]Span{"12f, 20ff": {{12, 13}, {20, 23}}, "5-9 passim": {{5, 5}, {7, 7}, {9, 9}}, "5-12 passim": {{5, 5}, {7, 7}, {9, 12}}, "214-6": {{214, 216}}, "1, 3": {{1, 1}, {3, 3}}, "98-100": {{98, 100}}} {
		if l, e := Parse(s, good); !slices.Equal(l, want) || e != api.OK {
			t.Error("P19.4:", good, l, e)
		}
	}
	for _, bad := range []string{"1ff", "1-5 passim", "1f"} {
		if _, e := Parse(Style{Keep: 1}, bad); e != api.ErrForm {
			t.Error("P19.4:", bad, e)
		}
	}
}

// all returns all normal lists with pages up to most, in their order.
func all(most int) [][]Span {
	var l [][]Span
	for set := range 1 << most {
		var spans []Span
		for p := range most {
			if set>>p&1 == 1 {
				spans = append(spans, Span{p + 1, p + 1})
			}
		}
		n, _ := Normal(spans)
		l = append(l, n)
	}
	slices.SortFunc(l, func(a, b []Span) int {
		p, q := Pages(a), Pages(b)
		last := func(l []int) int { return slices.Max(append(l, 0)) }
		return cmp.Or(cmp.Compare(last(p), last(q)), cmp.Compare(len(p), len(q)), slices.Compare(p, q))
	})
	return l
}

func TestUnique(t *testing.T) {
	lists := all(10)
	for keep := 1; keep <= 2; keep++ {
		for _, row := range []int{0, 2, 3, 5, 6, 7, 9, 10} {
			for _, p := range []int{0, 2, 3, 4, 5, 6} {
				for _, next := range []bool{false, true} {
					s := Style{keep, next, row, p}
					first := map[string][]Span{}
					found := false
					var a, b []Span
					for _, l := range lists {
						form := s.form(l)
						other, ok := first[form]
						if !ok {
							first[form] = l
							if got, e := Parse(s, form); e != api.OK || s.form(got) != form {
								t.Fatal("P19.8: not readable:", s, form)
							}
						}
						if ok && !found {
							a, b, found = other, l, true
						}
						if text, e := Print(s, l); e != api.OK && (e != api.ErrClash || !ok && !slices.ContainsFunc(lists, func(m []Span) bool { return !slices.Equal(l, m) && s.form(m) == form })) || e == api.OK && text != form {
							t.Fatal("P19.3, P19.8:", s, l, e)
						}
					}
					x, y, ok, e := Unique(s, 10)
					if e != api.OK || ok == found || !slices.Equal(x, a) || !slices.Equal(y, b) {
						t.Fatal("P19.5, P19.9:", s, x, y, ok, "and not", a, b)
					}
					if found {
						last := b[len(b)-1].To
						if Check(s, 10, x, y) != api.OK || Check(s, last-1, x, y) != api.ErrProof {
							t.Fatal("P19.6:", s)
						}
						if _, _, ok, _ := Unique(s, last-1); !ok {
							t.Fatal("P19.10:", s)
						}
					}
				}
			}
		}
	}
}

func TestUniqueErrors(t *testing.T) {
	s := Style{Keep: 1, Row: 3}
	if a, b, ok, e := Unique(s, 999); !slices.Equal(a, []Span{{1, 3}}) || !slices.Equal(b, []Span{{1, 4}}) || ok || e != api.OK {
		t.Error("P19.5:", a, b, ok, e)
	}
	p := Style{Keep: 1, Passim: 2}
	if _, _, ok, e := Unique(p, 3); !ok || e != api.OK {
		t.Error("P19.5:", ok, e)
	}
	if a, b, ok, e := Unique(p, 4); !slices.Equal(a, []Span{{1, 2}, {4, 4}}) || !slices.Equal(b, []Span{{1, 1}, {3, 4}}) || ok || e != api.OK {
		t.Error("P19.5:", a, b, ok, e)
	}
	for _, most := range []int{0, -1, 1000} {
		if _, _, ok, e := Unique(s, most); ok || e != api.ErrRange || Check(s, most, nil, nil) != api.ErrRange {
			t.Error("P19.5, P19.6:", most, e)
		}
	}
	for _, x := range []Style{{1, false, 999, 500}, {1, false, 0, 0}, {3, true, 0, 0}} {
		if _, _, ok, _ := Unique(x, 999); !ok {
			t.Error("P19.10:", x)
		}
	}
	for i, x := range [][2][]Span{{{{1, 3}}, {{1, 3}}}, {{{1, 3}}, {{1, 2}}}, {{{1, 3}}, {{1, 1001}}}, {{{1, 3}}, {{1, 3}, {4, 4}}}, {{{0, 3}}, {{1, 3}}}, {nil, nil}} {
		if e := Check(s, 999, x[0], x[1]); e != api.ErrProof {
			t.Error("P19.6:", i, e)
		}
	}
}

func TestShorter(t *testing.T) {
	r := rand.New(rand.NewSource(1))
	for range 500 {
		var l []Span
		for range r.Intn(9) {
			from := 1 + r.Intn(999)
			l = append(l, Span{from, min(from+r.Intn(99), 999)})
		}
		l, _ = Normal(l)
		last := 0
		for keep := 1; keep <= 3; keep++ {
			s := Style{keep, r.Intn(2) == 0, 0, 0}
			s.Next = true
			form, e := Print(s, l)
			back, e2 := Parse(s, form)
			if e != api.OK || e2 != api.OK || !slices.Equal(back, l) || len(form) < last {
				t.Fatal("P19.7, P19.10:", l, form, e, e2)
			}
			last = len(form)
		}
	}
}
