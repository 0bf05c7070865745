package heading

import (
	"strconv"
	"testing"

	"passim/api"
	"passim/printing"
)

func TestHeads(t *testing.T) {
	l := []Entry{{Path: []string{"a"}}, {Path: []string{"a", "b"}}, {Path: []string{"a", "b", "c"}}, {Path: []string{"a", "d"}}, {Path: []string{"e"}}, {Path: []string{"e", "b", "c"}}}
	want := []int{2, 1, 0, 0, 0, 0}
	for i, h := range Heads(l) {
		if h.Subs != want[i] || h.Level != len(l[i].Path) {
			t.Error("P29.2:", i, h)
		}
	}
}

func TestMany(t *testing.T) {
	var posts []api.Post
	for i := range 256 {
		posts = append(posts, api.Post{Path: []string{"x" + strconv.Itoa(i)}})
	}
	if l, e := Build(posts, printing.Copy{}); len(l) != 256 || e != api.OK {
		t.Error("P29.1:", len(l), e)
	}
	posts[0].Path = []string{"x0", "y"}
	if _, e := Build(posts, printing.Copy{}); e != api.ErrLimit {
		t.Error("P29.1: the beginnings of paths count, too:", e)
	}
}
