package heading

import (
	"math/rand"
	"reflect"
	"slices"
	"strconv"
	"testing"

	"passim/api"
	"passim/hash"
	"passim/page"
	"passim/policy"
	"passim/printing"
	"passim/span"
	"passim/wire"
)

var a, b, c, d = api.ID{Seq: 1}, api.ID{Seq: 2}, api.ID{Seq: 3}, api.ID{Seq: 4}

func leaf(volume, number int, ids ...api.ID) page.Page {
	p := page.Page{Volume: volume, Number: number}
	for _, id := range ids {
		p.Lines = append(p.Lines, page.Line{ID: id, To: 1, Text: "x"})
	}
	return p
}

func example() printing.Copy {
	return printing.Copy{Pages: []page.Page{leaf(0, 1, a, c), leaf(0, 2, b), leaf(0, 3, c), leaf(2, 1, d)}, Slips: [][]page.Line{nil, nil, {{ID: a, To: 1}}, nil}}
}

func posts() []api.Post {
	return []api.Post{{ID: a, Path: []string{"king"}, Main: true}, {ID: c, Path: []string{"king"}}, {ID: b, Path: []string{"king", "ode"}}, {ID: d, Path: []string{"lyre", "rome"}}}
}

func one(pages ...int) []span.Span {
	var l []span.Span
	for _, p := range pages {
		l = append(l, span.Span{From: p, To: p})
	}
	l, _ = span.Normal(l)
	return l
}

func TestExample(t *testing.T) {
	l, e := Build(posts(), example())
	want := []Entry{{[]string{"king"}, []Row{{0, true, one(1, 3)}}}, {[]string{"king", "ode"}, []Row{{0, false, one(2)}}}, {[]string{"lyre"}, nil}, {[]string{"lyre", "rome"}, []Row{{2, false, one(1)}}}}
	if !Same(l, want) || e != api.OK {
		t.Error("P29.1:", l, e)
	}
	if h := Heads(l); !reflect.DeepEqual(h[0], policy.Head{Path: []string{"king"}, Level: 1, Locators: 2, Mains: 2, Subs: 1}) || h[2].Subs != 1 || h[1].Level != 2 || h[1].Mains != 0 || h[1].Locators != 1 {
		t.Error("P29.2:", h)
	}
	if Find(l, []string{"lyre", "rome"}) != 3 || Find(l, []string{"rome"}) != -1 || Find(l, nil) != -1 || Count(l[0]) != 2 || Count(l[2]) != 0 {
		t.Error("P29.3")
	}
	less := example()
	less.Missing = []int{2, 3}
	l, _ = Build(posts(), less)
	want[0].Rows, want[3].Rows = []Row{{0, true, one(1)}}, nil
	if !Same(l, want) || Check(posts(), less, want) != api.OK || Check(posts(), example(), want) != api.ErrDiffer {
		t.Error("P29.1, P29.4:", l)
	}
}

func TestErrors(t *testing.T) {
	var many []api.Post
	for i := range 257 {
		many = append(many, api.Post{Path: []string{"x" + strconv.Itoa(i)}})
	}
	for i, x := range []struct {
		posts []api.Post
		page  page.Page
		e     api.Errno
	}{{[]api.Post{{}}, page.Page{}, api.ErrArg}, {make([]api.Post, 1001), page.Page{}, api.ErrLimit}, {nil, page.Page{Number: 0}, api.ErrArg}, {nil, page.Page{Number: 1000}, api.ErrArg}, {nil, page.Page{Volume: 8, Number: 1}, api.ErrArg}, {nil, page.Page{Volume: -1, Number: 1}, api.ErrArg},
		{many, page.Page{Number: 0}, api.ErrArg}, {many, page.Page{Number: 1}, api.ErrLimit}, {many[1:], page.Page{Number: 999, Volume: 7}, api.OK}} {
		c := printing.Copy{Pages: []page.Page{x.page}}
		l, e := Build(x.posts, c)
		if e != x.e || e != api.OK && len(l) > 0 || Check(x.posts, c, l) != e {
			t.Error("P29.1, P29.4:", i, e)
		}
	}
}

func TestBytes(t *testing.T) {
	l := []Entry{{[]string{"a", "b"}, []Row{{2, true, []span.Span{{From: 1, To: 2}, {From: 5, To: 5}}}, {2, false, nil}}}}
	want := slices.Concat(wire.Int(1), wire.Strings([]string{"a", "b"}), wire.Int(2), wire.Ints([]int{2, 1, 1, 2, 5, 5}), wire.Ints([]int{2, 0}))
	if x := Encode(l); !slices.Equal(x, want) || Digest(l) != hash.Of(api.TagIndex, string(x)) {
		t.Error("P29.5:", x)
	}
	for i, change := range []func(e *Entry){func(e *Entry) { e.Path = nil }, func(e *Entry) { e.Rows = nil }, func(e *Entry) { e.Rows = []Row{{1, true, e.Rows[0].List}, {2, false, nil}} }, func(e *Entry) { e.Rows = e.Rows[:1] }} {
		m := slices.Clone(l)
		change(&m[0])
		if Same(l, m) || slices.Equal(Encode(l), Encode(m)) {
			t.Error("P29.5:", i)
		}
	}
}

func TestProperties(t *testing.T) {
	r := rand.New(rand.NewSource(1))
	for range 300 {
		var x printing.Copy
		for n := range 8 {
			x.Pages = append(x.Pages, leaf(n/5, n%5+1, api.ID{K: r.Intn(4)}, api.ID{K: r.Intn(4)}))
			if r.Intn(4) == 0 {
				x.Missing = append(x.Missing, n)
			}
		}
		var l []api.Post
		for range r.Intn(8) {
			l = append(l, api.Post{ID: api.ID{K: r.Intn(4)}, Main: r.Intn(2) == 0, Path: [][]string{{"a"}, {"a", "b"}, {"c", "d", "e"}, {"b"}}[r.Intn(4)]})
		}
		entries, _ := Build(l, x)
		mixed := append(slices.Clone(l), l...)
		r.Shuffle(len(mixed), func(i, j int) { mixed[i], mixed[j] = mixed[j], mixed[i] })
		if again, _ := Build(mixed, x); !Same(entries, again) {
			t.Fatal("P29.7:", l)
		}
		for i, e := range entries {
			if i > 0 && slices.Compare(entries[i-1].Path, e.Path) >= 0 || len(e.Path) > 1 && Find(entries, e.Path[:len(e.Path)-1]) < 0 {
				t.Fatal("P29.7:", e)
			}
			checkPages(t, e, l, x)
		}
		some := slices.DeleteFunc(slices.Clone(l), func(p api.Post) bool { return p.Path[0] != "a" })
		part, _ := Build(some, x)
		if !Same(part, slices.DeleteFunc(slices.Clone(entries), func(e Entry) bool { return e.Path[0] != "a" })) {
			t.Fatal("P29.8:", l)
		}
		p, _, _ := policy.Load("rule r no heading if 1 < locators and mains < 2 or subs = 1")
		breaches, e := p.Breaches(api.Work{}, nil, nil, Heads(entries))
		n := 0
		for _, h := range Heads(entries) {
			if 1 < h.Locators && h.Mains < 2 || h.Subs == 1 {
				n++
			}
		}
		if len(breaches) != n || e != api.OK {
			t.Fatal("P29.9:", n, breaches, e)
		}
	}
}

func checkPages(t *testing.T, e Entry, l []api.Post, x printing.Copy) {
	got := map[[3]int]int{}
	for _, r := range e.Rows {
		for _, n := range span.Pages(r.List) {
			main := 0
			if r.Main {
				main = 1
			}
			got[[3]int{r.Volume, n, main}]++
		}
	}
	want := map[[3]int]int{}
	for _, main := range []int{1, 0} {
		for _, p := range l {
			if !slices.Equal(p.Path, e.Path) || p.Main != (main == 1) {
				continue
			}
			for _, i := range printing.Where(x, p.ID) {
				at := [3]int{x.Pages[i].Volume, x.Pages[i].Number, main}
				if main == 1 || want[[3]int{at[0], at[1], 1}] == 0 {
					want[at] = 1
				}
			}
		}
	}
	if !reflect.DeepEqual(got, want) {
		t.Fatal("P29.6:", e, want)
	}
}
