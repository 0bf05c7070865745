package policy

import (
	"testing"

	"passim/api"
)

func TestTests(t *testing.T) {
	w := passages(api.Passage{ID: a, Text: "Anna. Anna anna. Rome."}, api.Passage{ID: b, Text: "x"})
	for test, want := range map[string]bool{
		"notes = 0": true, "sentences = 2": true, "1 = 1 and 1 = 2": false, "1 = 2 and 1 = 1": false, "1 = 1 or 1 = 2": true, "1 = 2 or 1 = 1": true, "1 = 2 or 2 = 1": false, "1 = 1 and 2 = 2": true,
		"2 < 3": true, "3 <= 2": false, "some sentence [mentions = 3]": false, "every sentence [mentions < 3]": true, "every sentence [mentions = 2 or tokens = 2]": true, "some sentence [mentions = 1 and tokens = 2]": true, "some sentence [mentions = 0 and tokens = 2]": true,
	} {
		p := load(t, "rule r each term demand post if "+test)
		l, e := p.Demands(w, []api.Term{{Name: "anna"}})
		if (len(l) == 1) != want || e != api.OK {
			t.Error("P27.3:", test, l, e)
		}
	}
}

func TestAbsent(t *testing.T) {
	w := passages(api.Passage{ID: a, Text: "Anna"})
	p, voc := load(t, "rule r each term demand absent"), []api.Term{{Name: "anna"}}
	for i, x := range []struct {
		posts   []api.Post
		witness []int
		e       api.Errno
	}{{nil, []int{-1}, api.OK}, {nil, []int{0}, api.ErrProof}, {[]api.Post{post(a, false, "anna")}, []int{-1}, api.ErrProof}, {[]api.Post{post(a, false, "anna")}, []int{0}, api.ErrProof}, {[]api.Post{post(b, false, "anna")}, []int{-1}, api.OK}} {
		if e := p.Check(w, voc, x.posts, nil, x.witness); e != x.e {
			t.Error("P27.6:", i, e)
		}
	}
	see, words := load(t, "rule r entry term demand see"), []api.Term{{Name: "anne", See: "joan"}, {Name: "joan"}}
	l, _ := see.Demands(w, words)
	if v, e := see.Witness(l, words, []api.Post{post(b, false, "anne"), post(b, false, "joan")}); len(v) != 1 || v[0] != 1 || e != api.OK {
		t.Error("P27.4:", v, e)
	}
	full, heads := make([]api.Post, 1000), make([]Head, 256)
	if _, e := p.Breaches(w, voc, full, heads); e != api.OK {
		t.Error("P27.5:", e)
	}
	if _, e := p.Witness(nil, voc, full); e != api.OK {
		t.Error("P27.4:", e)
	}
}
