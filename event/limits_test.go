package event

import (
	"slices"
	"strings"
	"testing"

	"passim/api"
	"passim/wire"
)

func TestLimits(t *testing.T) {
	e := api.Event{Kind: api.EvPost, ID: id}
	for range 16 {
		e.Posts = append(e.Posts, api.Post{ID: id, Path: []string{"x"}})
		e.Refs = append(e.Refs, api.Name{By: 3, Seq: len(e.Refs)})
	}
	if x, _, err := Decode(Encode(e)); !Same(x, e) || err != api.OK || Valid(e) != api.OK {
		t.Error("P10.1, P10.8:", err)
	}
	term := api.Event{Kind: api.EvTerm, Term: api.Term{Name: "x"}}
	if x, _, err := Decode(Encode(term)); !Same(x, term) || err != api.OK {
		t.Error("P10.1, P10.8:", err)
	}
	edit := api.Event{Kind: api.EvEdit}
	edit.Op.Text = strings.Repeat("x", 65536-len(Encode(edit))-2+len(wire.Ints([]int{0, 0, 0, 0}))+len(wire.Ints(nil)))
	if Valid(edit) != api.OK {
		t.Error("P10.1: as many bytes as there can be")
	}
	edit.Op.Text += "x"
	if err := Valid(edit); err != api.ErrLimit {
		t.Error("P10.1:", err)
	}
	head := slices.Concat(wire.Ints([]int{0, 0, 0, api.EvTerm}), wire.Ints(nil), wire.Ints([]int{0, 0}))
	for _, l := range [][]string{nil, {"x"}} {
		if x, used, err := Decode(append(slices.Clone(head), wire.Strings(l)...)); !Same(x, api.Event{}) || used != 0 || err != api.ErrForm {
			t.Error("P10.4:", l, err)
		}
	}
}

func TestSamePosts(t *testing.T) {
	a := api.Event{Posts: []api.Post{{ID: id, Path: []string{"x"}}}}
	for i, p := range []api.Post{{ID: id, Path: []string{"y"}}, {ID: id, Path: []string{"x"}, Main: true}, {Path: []string{"x"}}} {
		if Same(a, api.Event{Posts: []api.Post{p}}) {
			t.Error("P10.2:", i)
		}
	}
	if s := Sort([]api.Event{{Term: api.Term{Broader: []string{"b"}}, Posts: a.Posts}}); s[0].Term.Broader[0] != "b" {
		t.Error("P10.2")
	} else if s[0].Posts[0].Path[0] = "changed"; a.Posts[0].Path[0] != "x" {
		t.Error("P10.2: memory is shared")
	}
	l := []api.Event{{Term: api.Term{Broader: []string{"b"}}}}
	Sort(l)[0].Term.Broader[0] = "changed"
	if l[0].Term.Broader[0] != "b" {
		t.Error("P10.2: memory is shared")
	}
}

func TestMany(t *testing.T) {
	var l []api.Event
	for seq := range api.MaxSeq + 1 {
		for by := range api.MaxAuthors {
			l = append(l, api.Event{By: by, Seq: seq, Tick: seq, Kind: api.EvEdition})
		}
	}
	if n, e := Closed(l); n != api.MaxEvents || e != api.OK {
		t.Error("P10.3:", n, e)
	}
}
