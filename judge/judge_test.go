package judge

import (
	"math/rand"
	"reflect"
	"slices"
	"strings"
	"testing"

	"passim/api"
	"passim/event"
)

var (
	a     = api.ID{}
	b     = api.ID{Seq: 1}
	pair  = [][2]int{{1, 2}}
	anna  = api.Post{ID: a, Path: []string{"anna"}, Main: true}
	minor = api.Post{ID: a, Path: []string{"anna"}}
	rome  = api.Post{ID: a, Path: []string{"rome"}}
)

func post(by, seq, tick int, id api.ID, l ...api.Post) api.Event {
	return api.Event{By: by, Seq: seq, Tick: tick, Kind: api.EvPost, ID: id, Posts: l}
}

func settle(by, seq, tick int, l ...api.Post) api.Event {
	e := post(by, seq, tick, a, l...)
	e.Kind = api.EvSettle
	return e
}

func TestExample(t *testing.T) {
	one, two, three, four := post(1, 0, 1, a, anna), post(2, 0, 2, a, rome), settle(3, 0, 3, anna, rome), post(2, 1, 4, a, anna)
	for i, x := range []struct {
		l    []api.Event
		want Verdict
		sees int
	}{
		{[]api.Event{one}, Verdict{a, Open, nil}, 0},
		{[]api.Event{two, one}, Verdict{a, Clash, nil}, 2},
		{[]api.Event{three, one, two}, Verdict{a, Settled, []api.Post{anna, rome}}, 3},
		{[]api.Event{one, three}, Verdict{a, Open, nil}, 0},
		{[]api.Event{one, two, three, four}, Verdict{a, Agreed, []api.Post{anna}}, 4},
		{[]api.Event{one, two, settle(1, 1, 3, anna), settle(2, 1, 3)}, Verdict{a, Clash, nil}, 4},
		{[]api.Event{one, post(2, 0, 3, a, rome), settle(3, 0, 3, anna)}, Verdict{a, Settled, []api.Post{anna}}, 3},
		{[]api.Event{one, post(2, 0, 3, a, rome), settle(0, 0, 3, anna)}, Verdict{a, Clash, nil}, 3},
		{[]api.Event{one, two, three, settle(0, 0, 9)}, Verdict{a, Settled, nil}, 4},
		{[]api.Event{one, two, three, post(2, 1, 4, a, minor)}, Verdict{a, Clash, nil}, 4},
		{[]api.Event{one, two, post(2, 1, 5, b), {By: 9, Kind: api.EvPost, ID: a}}, Verdict{a, Clash, nil}, 3},
		{[]api.Event{one, two, post(4, 0, 5, b)}, Verdict{a, Clash, nil}, 2},
	} {
		l, e := Outcome(x.l, []api.ID{a}, pair)
		if e != api.OK || len(l) != 1 || l[0].ID != a || l[0].State != x.want.State || !slices.EqualFunc(l[0].Posts, x.want.Posts, func(p, q api.Post) bool { return reflect.DeepEqual(p, q) }) {
			t.Error("P25.3:", i, l, e)
		}
		if s, e := Sees(x.l, []api.ID{a}, pair, 2); len(s) != x.sees || e != api.OK {
			t.Error("P25.4:", i, s, e)
		}
	}
}

func TestLatest(t *testing.T) {
	l := []api.Event{post(1, 1, 5, a), post(1, 0, 3, a), post(1, 1, 5, a, rome), post(1, 2, 5, b), settle(1, 9, 9), post(2, 0, 9, a), {By: 1, Seq: 60, Tick: 99, Kind: api.EvPost, ID: a, N: 1}}
	for _, x := range []struct {
		by   int
		id   api.ID
		want int
	}{{1, a, 2}, {1, b, 3}, {2, b, -1}, {2, a, 5}, {-1, a, -1}} {
		if n := Latest(l, x.by, x.id); n != x.want {
			t.Error("P25.2:", x, n)
		}
	}
}

func TestNormal(t *testing.T) {
	king, ode := api.Post{ID: b, Path: []string{"king"}}, api.Post{ID: a, Path: []string{"anna", "ode"}}
	l, e := Normal([]api.Post{king, rome, minor, ode, anna, minor})
	if want := []api.Post{anna, ode, rome, king}; !reflect.DeepEqual(l, want) || e != api.OK {
		t.Error("P25.1:", l, e)
	}
	l[0].Path[0] = "changed"
	if anna.Path[0] != "anna" {
		t.Error("P25.1: memory is shared")
	}
	for i, p := range []api.Post{{}, {Path: []string{""}}, {Path: slices.Repeat([]string{"x"}, 5)}, {Path: []string{"@"}}, {Path: []string{strings.Repeat("x", 25)}}} {
		if l, e := Normal([]api.Post{anna, p}); len(l) > 0 || e != api.ErrArg || SamePosts([]api.Post{p}, []api.Post{p}) {
			t.Error("P25.1:", i, e)
		}
	}
	if _, e := Normal(make([]api.Post, 1001)); e != api.ErrLimit {
		t.Error("P25.1:", e)
	}
	if l, e := Normal(slices.Repeat([]api.Post{anna}, 1000)); len(l) != 1 || e != api.OK {
		t.Error("P25.1:", e)
	}
	if !SamePosts([]api.Post{rome, minor, anna}, []api.Post{anna, rome}) || SamePosts([]api.Post{minor}, []api.Post{anna}) || !SamePosts(nil, []api.Post{}) || SamePosts([]api.Post{rome}, nil) {
		t.Error("P25.1: SamePosts")
	}
}

func TestErrors(t *testing.T) {
	for i, x := range []struct {
		ids   []api.ID
		pairs [][2]int
		e     api.Errno
	}{{make([]api.ID, 1025), nil, api.ErrLimit}, {[]api.ID{a}, nil, api.ErrArg}, {[]api.ID{a, a}, [][2]int{{0, 1}, {0, 1}}, api.ErrArg}, {[]api.ID{a}, [][2]int{{1, 1}}, api.ErrArg}, {[]api.ID{a}, [][2]int{{1, 6}}, api.ErrArg}, {[]api.ID{a}, [][2]int{{-1, 5}}, api.ErrArg}, {nil, nil, api.OK}, {[]api.ID{a}, [][2]int{{5, 0}}, api.OK}} {
		l, e := Outcome(nil, x.ids, x.pairs)
		s, e2 := Sees(nil, x.ids, x.pairs, 0)
		if e != x.e || e2 != e || e != api.OK && len(l)+len(s) > 0 {
			t.Error("P25.3, P25.4:", i, e, e2)
		}
	}
	l := []Verdict{{a, Agreed, []api.Post{rome}}, {b, Settled, []api.Post{anna}}, {b, Clash, []api.Post{{}}}, {b, Open, []api.Post{{}}}, {State: 9}}
	if p := Posts(l); !reflect.DeepEqual(p, []api.Post{anna, rome}) {
		t.Error("P25.5:", p)
	}
	if n, m := Agreement(l); n != 1 || m != 4 {
		t.Error("P25.5:", n, m)
	}
	l[0].Posts = []api.Post{{}}
	if p := Posts(l); len(p) > 0 {
		t.Error("P25.5:", p)
	}
}

func random(r *rand.Rand) []api.Event {
	var l []api.Event
	var seqs [6]int
	for tick := range r.Intn(9) {
		by := r.Intn(5)
		id := []api.ID{a, a, b}[r.Intn(3)]
		e := post(by, seqs[by], tick, id)
		e.Kind = []int{api.EvPost, api.EvPost, api.EvSettle}[r.Intn(3)]
		for _, p := range []api.Post{anna, minor, rome} {
			if p.ID = id; r.Intn(3) == 0 {
				e.Posts = append(e.Posts, p)
			}
		}
		seqs[by]++
		l = append(l, e)
	}
	return l
}

func TestProperties(t *testing.T) {
	r := rand.New(rand.NewSource(1))
	for range 2000 {
		l := random(r)
		v, _ := Outcome(l, []api.ID{a}, pair)
		mixed := slices.Clone(l)
		r.Shuffle(len(l), func(i, j int) { mixed[i], mixed[j] = mixed[j], mixed[i] })
		mixed = slices.DeleteFunc(mixed, func(e api.Event) bool {
			return e.ID == b || e.Kind == api.EvPost && e.By != 1 && e.By != 2
		})
		w, _ := Outcome(mixed, []api.ID{a}, [][2]int{{2, 1}})
		if !reflect.DeepEqual(v, w) {
			t.Fatal("P25.7:", l)
		}
		by := r.Intn(6)
		seen, _ := Sees(l, []api.ID{a}, pair, by)
		if v[0].State == Open {
			less := slices.DeleteFunc(slices.Clone(l), func(e api.Event) bool { return e.ID == a && e.By != by })
			if s, _ := Sees(less, []api.ID{a}, pair, by); !slices.EqualFunc(s, seen, event.Same) {
				t.Fatal("P25.8:", l, by)
			}
		}
		more := append(slices.Clone(l), post(by, 60, 99, a, rome))
		s, _ := Sees(more, []api.ID{a}, pair, by)
		if event.Find(s, api.Name{By: by, Seq: 60}) < 0 {
			t.Fatal("P25.8: the own event")
		}
		for _, e := range seen {
			if event.Find(s, event.Name(e)) < 0 {
				t.Fatal("P25.8: what was seen before")
			}
		}
		if i := Latest(l, 1, a); i >= 0 && (v[0].State == Clash || v[0].State == Settled) {
			again := append(slices.Clone(l), post(1, 61, 100, a, l[i].Posts...))
			if w, _ := Outcome(again, []api.ID{a}, pair); w[0].State != Clash {
				t.Fatal("P25.9:", w)
			}
			last := append(again, settle(5, 61, 101, rome))
			if w, _ := Outcome(last, []api.ID{a}, pair); w[0].State != Settled || !SamePosts(w[0].Posts, []api.Post{rome}) {
				t.Fatal("P25.9:", w)
			}
		}
		var posts []api.Post
		for _, e := range l {
			posts = append(posts, e.Posts...)
		}
		n, _ := Normal(posts)
		slices.Reverse(posts)
		m, _ := Normal(posts)
		if again, _ := Normal(n); !reflect.DeepEqual(n, m) || !reflect.DeepEqual(n, again) {
			t.Fatal("P25.6:", posts)
		}
	}
}
