package identify

import (
	"math/rand"
	"reflect"
	"slices"
	"testing"

	"passim/api"
	"passim/page"
	"passim/printing"
	"passim/question"
)

var a, b, c, d = api.ID{Seq: 1}, api.ID{Seq: 2}, api.ID{Seq: 3}, api.ID{Seq: 4}

func line(id api.ID, text string) page.Line { return page.Line{ID: id, To: 1, Text: text} }

func leaf(volume, number int, lines ...page.Line) page.Page {
	return page.Page{Volume: volume, Number: number, Lines: lines}
}

func example() printing.Issue {
	pages := []page.Page{leaf(0, 1, line(a, "king"), line(a, "rome")), leaf(0, 2, line(b, "the ode")), leaf(0, 3, line(c, "lyre")), leaf(2, 1, line(d, "anna"))}
	return printing.Issue{Edition: 3, Pages: pages, Changes: []printing.Change{
		{Kind: printing.Cancel, At: 1, Pages: []page.Page{leaf(0, 1, line(a, "king"), line(c, "lyre")), pages[1]}},
		{Kind: printing.Slip, At: 3, Pages: []page.Page{leaf(0, 3, line(a, "x"))}}, {Kind: printing.Lose, At: 2}, {Kind: printing.Missing, Volume: 2},
	}, States: [][]int{nil, {0, 1}, {2}, {1, 2, 3}}}
}

func copyOf(x printing.Issue, s int) printing.Copy {
	y, _ := printing.Read(x, s)
	return y
}

func TestReply(t *testing.T) {
	x := example()
	for i, v := range []struct {
		state int
		a     Ask
		want  string
	}{{0, Ask{LastWord, 0}, `"rome"`}, {1, Ask{LastWord, 0}, `"lyre"`}, {3, Ask{There, 2}, "no"}, {3, Ask{Lines, 2}, "missing"}, {3, Ask{LastWord, 2}, "missing"}, {3, Ask{Pasted, 2}, "missing"}, {1, Ask{Pasted, 2}, "yes"}, {0, Ask{Pasted, 2}, "no"}, {0, Ask{Lines, 0}, "2"}, {0, Ask{There, 3}, "yes"},
		{0, Ask{LastWord, 1}, `"ode"`}, {0, Ask{LastWord, 4}, ""}, {0, Ask{LastWord, -1}, ""}, {0, Ask{Kinds, 0}, ""}, {0, Ask{-1, 0}, ""}} {
		if r := Reply(copyOf(x, v.state), v.a); r != v.want {
			t.Error("P17.1:", i, r)
		}
	}
	short := printing.Copy{Pages: []page.Page{{Notes: []page.Line{{}}}}}
	if Reply(short, Ask{Pasted, 0}) != "no" || Reply(short, Ask{Lines, 0}) != "1" || Reply(short, Ask{LastWord, 0}) != `""` {
		t.Error("P17.1: a copy without slips")
	}
}

func TestExample(t *testing.T) {
	x := example()
	want := []Ask{{Pasted, 2}, {There, 2}, {Pasted, 3}, {LastWord, 0}}
	if l := Asks(x); !slices.Equal(l, want) {
		t.Error("P17.1:", l)
	}
	alike, e := Alike(x, []api.ID{a})
	other, e2 := Alike(x, []api.ID{d})
	if !slices.Equal(alike, []int{0, 1, 0, 0}) || !slices.Equal(other, []int{0, 0, 0, 1}) || e != api.OK || e2 != api.OK {
		t.Error("P17.3:", alike, other)
	}
	asks, tree, cost, e := Plan(x, alike)
	best := &question.Tree{Ask: 0, Answers: []int{0, 1, 2}, Kids: []*question.Tree{{Ask: -1}, {Ask: -1}, {Ask: -1, Class: 1}}}
	if !slices.Equal(asks, want) || !reflect.DeepEqual(tree, best) || cost != 1 || e != api.OK {
		t.Error("P17.4:", asks, question.Encode(tree), cost, e)
	}
	if l, e := Possible(x, []Ask{{LastWord, 0}, {Pasted, 2}}, []string{`"rome"`, "missing"}); !slices.Equal(l, []int{2, 3}) || e != api.OK {
		t.Error("P17.5:", l, e)
	}
	if l, e := Possible(x, []Ask{{LastWord, 0}, {Pasted, 2}}, []string{"", "missing"}); !slices.Equal(l, []int{2, 3}) || e != api.OK {
		t.Error("P17.5:", l, e)
	}
	table, replies, e := Table(x, []Ask{{Pasted, 2}, {LastWord, 0}, {Lines, 1}}, []int{0, 0, 1, 63})
	if !reflect.DeepEqual(table, question.Table{Answers: [][]int{{1, 1, 0}, {2, 0, 0}, {0, 1, 0}, {0, 1, 0}}, Costs: []int{1, 2, 3}, Class: []int{0, 0, 1, 63}}) ||
		!reflect.DeepEqual(replies, [][]string{{"missing", "no", "yes"}, {`"lyre"`, `"rome"`}, {"1"}}) || e != api.OK {
		t.Error("P17.2:", table, replies, e)
	}
	if class, said, e := Find(x, alike, copyOf(x, 1)); class != 1 || !slices.Equal(said, []string{"yes"}) || e != api.OK {
		t.Error("P17.6:", class, said, e)
	}
	if class, said, e := Find(x, alike, printing.Copy{}); class != 0 || len(said) > 0 || e != api.ErrNone {
		t.Error("P17.6:", class, said, e)
	}
}

func TestErrors(t *testing.T) {
	x, class := example(), []int{0, 0, 0, 0}
	bad := example()
	bad.States[1] = nil
	_, _, e := Table(bad, nil, nil)
	_, e2 := Alike(bad, nil)
	_, _, _, e3 := Plan(bad, nil)
	_, e4 := Possible(bad, nil, nil)
	_, _, e5 := Find(bad, nil, printing.Copy{})
	if l := []api.Errno{e, e2, e3, e4, e5}; !slices.Equal(l, slices.Repeat([]api.Errno{api.ErrTwice}, 5)) || len(Asks(bad)) > 0 {
		t.Error("P17.1 to P17.6:", l)
	}
	for i, v := range []struct {
		asks  []Ask
		class []int
		e     api.Errno
	}{{make([]Ask, 65), nil, api.ErrLimit}, {make([]Ask, 64), class, api.OK}, {[]Ask{{4, 0}}, class, api.ErrArg}, {[]Ask{{0, 4}}, class, api.ErrArg}, {[]Ask{{-1, 0}}, class, api.ErrArg}, {nil, class[1:], api.ErrArg}, {nil, []int{0, 0, 0, 64}, api.ErrArg}, {nil, []int{-1, 0, 0, 0}, api.ErrArg}} {
		if _, _, e := Table(x, v.asks, v.class); e != v.e {
			t.Error("P17.2:", i, e)
		}
		if _, _, _, e := Plan(x, v.class); len(v.asks) == 0 && e != v.e {
			t.Error("P17.4:", i, e)
		}
	}
	if _, e := Possible(x, []Ask{{0, 0}}, nil); e != api.ErrArg {
		t.Error("P17.5:", e)
	}
	if _, e := Possible(x, []Ask{{0, 9}}, []string{""}); e != api.ErrArg {
		t.Error("P17.5:", e)
	}
	same := example()
	same.Changes[1].Pages[0].Lines = append(same.Changes[1].Pages[0].Lines, line(b, "y"))
	same.Changes = append(same.Changes, printing.Change{Kind: printing.Slip, At: 3, Pages: []page.Page{leaf(0, 3, line(d, "z"))}})
	same.States = [][]int{nil, {1}, {4}}
	if _, tree, cost, e := Plan(same, []int{0, 1, 2}); tree != nil || cost != 0 || e != api.ErrClash {
		t.Error("P17.4, P17.9:", e)
	}
	if _, _, e := Find(same, []int{0, 1, 2}, printing.Copy{}); e != api.ErrClash {
		t.Error("P17.6:", e)
	}
}

func TestFound(t *testing.T) {
	r := rand.New(rand.NewSource(1))
	x := example()
	x.States = [][]int{nil}
	for set := 1; set < 16; set++ {
		var s []int
		for k := range 4 {
			if set>>k&1 == 1 {
				s = append(s, k)
			}
		}
		x.States = append(x.States, s)
	}
	for range 100 {
		y := x
		y.States = append([][]int{nil}, x.States[1+r.Intn(8):][:1+r.Intn(7)]...)
		if r.Intn(5) == 0 {
			y = x
		}
		class, _ := Alike(y, [][]api.ID{{a}, {a, b}, {c, d}, {a, b, c, d}}[r.Intn(4)])
		asks, tree, cost, e := Plan(y, class)
		if e == api.ErrClash {
			continue
		}
		for s := range y.States {
			read := copyOf(y, s)
			found, said, e := Find(y, class, read)
			if found != class[s] || e != api.OK {
				t.Fatal("P17.7:", s, found, e)
			}
			var way []Ask
			sum := 0
			for x := tree; x.Ask >= 0; {
				way, sum = append(way, asks[x.Ask]), sum+costs[asks[x.Ask].Kind]
				_, replies, _ := Table(y, asks, class)
				k := slices.Index(replies[x.Ask], Reply(read, asks[x.Ask]))
				x = x.Kids[slices.Index(x.Answers, k)]
			}
			l, _ := Possible(y, way, said)
			if sum > cost || !slices.Contains(l, s) || slices.ContainsFunc(l, func(i int) bool { return class[i] != class[s] }) {
				t.Fatal("P17.7:", s, way, said, l)
			}
			all, _ := Possible(y, nil, nil)
			if len(all) != len(y.States) {
				t.Fatal("P17.8")
			}
		}
		numbers, _ := Alike(y, []api.ID{a, b, c, d})
		for i := range y.States {
			for k := range i {
				p, q := printing.Has(copyOf(y, i)), printing.Has(copyOf(y, k))
				if numbers[i] == numbers[k] && (len(p) != len(q) || slices.ContainsFunc(p, func(id api.ID) bool { return !slices.Contains(q, id) })) {
					t.Fatal("P17.10:", i, k)
				}
			}
		}
	}
}
