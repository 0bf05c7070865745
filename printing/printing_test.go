package printing

import (
	"math/rand"
	"reflect"
	"slices"
	"testing"

	"passim/api"
	"passim/page"
)

var a, b, c, d = api.ID{Seq: 1}, api.ID{Seq: 2}, api.ID{Seq: 3}, api.ID{Seq: 4}

func leafPage(volume, number int, ids ...api.ID) page.Page {
	p := page.Page{Volume: volume, Number: number}
	for _, id := range ids {
		p.Lines = append(p.Lines, page.Line{ID: id, To: 1, Text: "x"})
	}
	return p
}

// example is the issue of the chapter's examples; its pages 1 to 3 have the passages a, b and c.
func example() Issue {
	pages := []page.Page{leafPage(0, 1, a), leafPage(0, 2, b), leafPage(0, 3, c), leafPage(2, 1, d)}
	return Issue{3, pages, []Change{
		{Cancel, 0, 1, []page.Page{leafPage(0, 1, a, c), leafPage(0, 2, b)}},
		{Slip, 0, 3, []page.Page{leafPage(0, 3, a)}},
		{Lose, 0, 2, nil},
		{Missing, 2, 0, nil},
	}, [][]int{nil, {0, 1}, {2}, {1, 2, 3}}}
}

func TestExample(t *testing.T) {
	x := example()
	if e := Valid(x); e != api.OK {
		t.Fatal("P15.1:", e)
	}
	for s, want := range []string{"e3", "e3ab", "e3c", "e3bcd"} {
		if code, e := Code(x, s); code != want || e != api.OK {
			t.Error("P15.3:", s, code, e)
		}
		if n, e := Find(x, want); n != s || e != api.OK {
			t.Error("P15.4, P15.8:", want, n, e)
		}
	}
	if n, e := Find(x, "e3d"); n != 0 || e != api.ErrNone {
		t.Error("P15.4:", n, e)
	}
	for _, v := range []struct {
		a, b int
		want []int
	}{{0, 1, []int{0, 2}}, {1, 3, []int{0, 2, 3}}, {2, 2, nil}} {
		if l, e := Differ(x, v.a, v.b); !slices.Equal(l, v.want) || e != api.OK {
			t.Error("P15.5:", v, l, e)
		}
	}
	copies := make([]Copy, 4)
	for s := range copies {
		copies[s], _ = Read(x, s)
	}
	for s, want := range map[int][]int{0: {0}, 1: {0, 2}, 3: {0}} {
		if l := Where(copies[s], a); !slices.Equal(l, want) {
			t.Error("P15.6:", s, l)
		}
	}
	if l := Absent(copies[3], a); !slices.Equal(l, []int{2}) {
		t.Error("P15.6:", l)
	}
	if l := Has(copies[3]); !slices.Equal(l, []api.ID{a, b}) {
		t.Error("P15.7:", l)
	}
	if l := Has(copies[1]); !slices.Equal(l, []api.ID{a, c, b, d}) {
		t.Error("P15.7:", l)
	}
	if !page.Same(copies[0].Pages, x.Pages) || len(slices.Concat(copies[0].Slips...)) > 0 || len(copies[0].Missing) > 0 {
		t.Error("P15.9")
	}
	if !slices.Equal(copies[3].Missing, []int{2, 3}) || !reflect.DeepEqual(copies[3].Slips[2], x.Changes[1].Pages[0].Lines) {
		t.Error("P15.2:", copies[3])
	}
	copies[1].Pages[0].Lines[0].Text, copies[1].Slips[2][0].Text, copies[0].Pages[0].Lines[0].Text = "1", "2", "3"
	if !reflect.DeepEqual(x, example()) {
		t.Error("P15.2: memory is shared")
	}
}

func TestErrors(t *testing.T) {
	for i, x := range []struct {
		change func(x *Issue)
		e      api.Errno
	}{
		{func(x *Issue) { x.Changes = make([]Change, 13) }, api.ErrLimit}, {func(x *Issue) { x.States = make([][]int, 65) }, api.ErrLimit}, {func(x *Issue) { x.Edition = -1 }, api.ErrArg}, {func(x *Issue) { x.Edition = 16 }, api.ErrArg},
		{func(x *Issue) { x.Pages[2].Number = 4 }, api.ErrArg}, {func(x *Issue) { x.Pages[3].Volume = 8 }, api.ErrArg}, {func(x *Issue) { x.Pages[0].Volume = -1 }, api.ErrArg}, {func(x *Issue) { slices.Reverse(x.Pages) }, api.ErrArg},
		{func(x *Issue) { x.Pages[3].Number = 2 }, api.ErrArg}, {func(x *Issue) { x.Changes[0].At = 2 }, api.ErrArg}, {func(x *Issue) { x.Changes[0].At = 0 }, api.ErrArg}, {func(x *Issue) { x.Changes[0].Pages = x.Changes[0].Pages[:1] }, api.ErrArg},
		{func(x *Issue) { x.Changes[0].Pages = nil }, api.ErrArg}, {func(x *Issue) { x.Changes[0].Pages[1].Number = 1 }, api.ErrArg}, {func(x *Issue) { x.Changes[0].Pages[1].Volume = 1 }, api.ErrArg}, {func(x *Issue) { x.Changes[1].Pages[0].Lines = nil }, api.ErrArg},
		{func(x *Issue) { x.Changes[1].Pages[0].Notes = x.Changes[1].Pages[0].Lines }, api.ErrArg}, {func(x *Issue) { x.Changes[1].At = 4 }, api.ErrArg}, {func(x *Issue) { x.Changes[1].At = 2 }, api.ErrArg}, {func(x *Issue) { x.Changes[1].Pages = nil }, api.ErrArg},
		{func(x *Issue) { x.Changes[2].At = 3 }, api.ErrArg}, {func(x *Issue) { x.Changes[2].Pages = x.Pages[:1] }, api.ErrArg}, {func(x *Issue) { x.Changes[3].At = 1 }, api.ErrArg}, {func(x *Issue) { x.Changes[3].Volume = 1 }, api.ErrArg}, {func(x *Issue) { x.Changes[3].Pages = x.Pages[:1] }, api.ErrArg},
		{func(x *Issue) { x.Changes[3].Kind = 4 }, api.ErrArg}, {func(x *Issue) { x.Changes[3].Kind = -1 }, api.ErrArg}, {func(x *Issue) { x.States = nil }, api.ErrArg}, {func(x *Issue) { x.States = x.States[1:] }, api.ErrArg}, {func(x *Issue) { x.States[1] = []int{1, 0} }, api.ErrArg},
		{func(x *Issue) { x.States[1] = []int{0, 4} }, api.ErrArg}, {func(x *Issue) { x.States[1] = []int{-1} }, api.ErrArg}, {func(x *Issue) { x.States[1] = []int{2} }, api.ErrTwice}, {func(x *Issue) { x.States[3] = []int{} }, api.ErrTwice},
		{func(x *Issue) { x.Changes[2].At = 1; x.States[1] = []int{0, 2} }, api.ErrClash}, {func(x *Issue) { x.Changes[2].At = 1 }, api.OK}, {func(x *Issue) { x.Changes, x.States = nil, [][]int{nil} }, api.OK}, {func(x *Issue) { *x = Issue{States: [][]int{{}}} }, api.OK},
		{func(x *Issue) { x.Changes[2] = Change{Missing, 0, 0, nil} }, api.OK},
	} {
		v := example()
		x.change(&v)
		r, e2 := Read(v, 0)
		code, e3 := Code(v, 0)
		_, e4 := Find(v, "")
		_, e5 := Differ(v, 0, 0)
		if e := Valid(v); e != x.e || e2 != e || e3 != e || e4 != max(e, api.ErrNone) && e4 != e || e5 != e || e != api.OK && (code != "" || len(r.Pages) > 0) {
			t.Error("P15.1:", i, e, e2, e3, e4, e5)
		}
	}
	x := example()
	for _, s := range []int{-1, 4} {
		_, e := Read(x, s)
		_, e2 := Code(x, s)
		_, e3 := Differ(x, 0, s)
		_, e4 := Differ(x, s, 0)
		if e != api.ErrNone || e2 != e || e3 != e || e4 != e {
			t.Error("P15.2, P15.3, P15.5:", s, e, e2, e3, e4)
		}
	}
}

func TestAnyCopy(t *testing.T) {
	title := api.ID{By: -1}
	y := Copy{Pages: []page.Page{leafPage(0, 1, a, title), leafPage(5, 5, b)}, Slips: [][]page.Line{{{ID: title}, {ID: c}}, {{ID: a}}, {{ID: d}}}, Missing: []int{7, -1, 1, 1}}
	if l := Where(y, a); !slices.Equal(l, []int{0}) || len(Where(y, title)) > 0 || len(Where(y, d)) > 0 {
		t.Error("P15.6:", l)
	}
	if l := Absent(y, a); !slices.Equal(l, []int{1}) {
		t.Error("P15.6:", l)
	}
	if l := Has(y); !slices.Equal(l, []api.ID{a, c}) {
		t.Error("P15.7:", l)
	}
	y.Slips = y.Slips[:1]
	if l := Absent(y, a); len(l) > 0 || len(Has(Copy{})) > 0 {
		t.Error("P15.6:", l)
	}
}

func TestProperties(t *testing.T) {
	r := rand.New(rand.NewSource(1))
	x := example()
	x.States = [][]int{nil}
	for set := 1; set < 16; set++ {
		var s []int
		for k := range 4 {
			if set>>k&1 == 1 {
				s = append(s, k)
			}
		}
		x.States = append(x.States, s)
	}
	for range 400 {
		i, j, k := r.Intn(16), r.Intn(16), r.Intn(16)
		ij, _ := Differ(x, i, j)
		ji, _ := Differ(x, j, i)
		jk, _ := Differ(x, j, k)
		ik, _ := Differ(x, i, k)
		if !slices.Equal(ij, ji) {
			t.Fatal("P15.11:", i, j)
		}
		for _, p := range ik {
			if !slices.Contains(ij, p) && !slices.Contains(jk, p) {
				t.Fatal("P15.11:", i, j, k)
			}
		}
		read, _ := Read(x, i)
		for _, id := range []api.ID{a, b, c, d, {By: -1}} {
			w, gone := Where(read, id), Absent(read, id)
			if slices.Contains(Has(read), id) != (len(w) > 0) || slices.ContainsFunc(w, func(p int) bool { return slices.Contains(gone, p) }) {
				t.Fatal("P15.10:", i, id)
			}
		}
	}
}
