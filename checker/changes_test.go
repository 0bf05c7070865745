package checker

import (
	"reflect"
	"slices"
	"strings"
	"testing"

	"passim/api"
	"passim/page"
	"passim/printing"
	"passim/sign"
)

func TestChanges(t *testing.T) {
	h, r := example(t), rules(t)
	x := issue(t, h, r, 0)
	x.Changes = []printing.Change{{Kind: printing.Slip, At: 1, Pages: []page.Page{{Number: 1, Lines: []page.Line{{ID: a, Text: "errata"}}}}}, {Kind: printing.Lose, At: 1}}
	x.States = append(x.States, []int{0}, []int{1})
	y, e := Make(h, r, x, 2, king(), seed, 0)
	if e != api.OK || len(y.Index) != 1 || len(y.Index[0].Rows) > 0 || !reflect.DeepEqual(y.Issue, x) {
		t.Fatal("P45.2:", e, y.Index)
	}
	if n, e := Check(h, r, y); n != Parts || e != api.OK {
		t.Error("P45.4:", n, e)
	}
	y.Issue.Changes[0].Pages[0].Lines[0].Text, y.Issue.States[1][0] = "changed", 5
	if x.Changes[0].Pages[0].Lines[0].Text != "errata" || x.States[1][0] != 0 {
		t.Error("P45.2: memory is shared")
	}
	for i, posts := range [][]api.Post{{{ID: a, Path: []string{"king"}}}, {{ID: a, Path: []string{"ode"}, Main: true}}, {{ID: a, Path: []string{"ode"}}, {ID: a, Path: []string{"king"}}}, {{ID: a, Path: []string{"king"}}, {ID: a, Path: []string{"king"}, Main: true}}} {
		z, _ := Make(h, r, x, 0, king(), seed, 0)
		z.Posts = posts
		want := Entries
		if i > 1 {
			want = Postings
		}
		if n, e := Check(h, r, z); n != want || e != api.ErrProof {
			t.Error("P45.1:", i, n, e)
		}
	}
}

func TestHeights(t *testing.T) {
	h := example(t)
	for _, height := range []int{0, 6} {
		r := rules(t)
		r.Height = height
		r.Public, _ = sign.Public(seed, height)
		x, e := Make(h, r, issue(t, h, r, 1), 0, nil, seed, 0)
		if n, e2 := Check(h, r, x); n != Parts || e != api.OK || e2 != api.OK {
			t.Error("P45.1:", height, e, e2)
		}
	}
	r := rules(t)
	x := release(t, h, r, king())
	for _, change := range []func(x *Release){func(x *Release) { x.Edition = -1 }, func(x *Release) { x.Edition = 9 }, func(x *Release) { x.Issue.Edition = 1 }, func(x *Release) { x.Issue.Edition, x.Edition = -1, -1 }} {
		y := x
		y.Issue = own(x.Issue)
		change(&y)
		if n, e := Check(h, r, y); n != Text || e != api.ErrProof {
			t.Error("P45.1:", n, e)
		}
	}
	long := x
	long.Index = slices.Clone(x.Index)
	long.Index[0].Path = []string{strings.Repeat("x", 1<<17)}
	if n, e := Check(h, r, long); n != Entries || e != api.ErrProof {
		t.Error("P45.1:", n, e)
	}
}
