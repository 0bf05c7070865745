package event

import (
	"math/rand"
	"reflect"
	"slices"
	"strings"
	"testing"

	"passim/api"
	"passim/edit"
	"passim/hash"
	"passim/wire"
)

var (
	first  = api.Event{Tick: 3, Kind: api.EvEdition}
	second = api.Event{By: 1, Tick: 4, Kind: api.EvEdition, Refs: []api.Name{{}}}
	id     = api.ID{By: 1, Seq: 2, K: 3}
)

// kinds returns a valid event of each kind.
func kinds() []api.Event {
	post := api.Post{ID: id, Path: []string{"king", "of Rome"}, Main: true}
	return []api.Event{
		{Kind: api.EvEdit, Refs: []api.Name{{By: 1}, {By: 1, Seq: 3}, {By: 2}}, Op: api.Op{Kind: 99, At: id, Texts: []string{"x"}}},
		{Kind: api.EvEdition, Tick: api.MaxTick, By: 5, Seq: 63},
		{Kind: api.EvTerm, Term: api.Term{Name: "king", Kind: 2, Lang: 3, See: "ruler", Broader: []string{"man"}}},
		{Kind: api.EvPost, ID: id, Posts: []api.Post{post, {ID: id, Path: []string{"a", "b", "c", "d"}}}},
		{Kind: api.EvSettle, ID: api.ID{By: -9}},
		{Kind: api.EvHold, ID: id, N: api.MaxTick},
		{Kind: api.EvFree},
	}
}

func TestValid(t *testing.T) {
	for i, e := range kinds() {
		if err := Valid(e); err != api.OK {
			t.Error("P10.1:", i, err)
		}
	}
	long := strings.Repeat("x", 25)
	for i, x := range []struct {
		kind   int
		change func(e *api.Event)
		e      api.Errno
	}{
		{1, func(e *api.Event) { e.By = 6 }, api.ErrArg}, {1, func(e *api.Event) { e.By = -1 }, api.ErrArg}, {1, func(e *api.Event) { e.Seq = 64 }, api.ErrArg}, {1, func(e *api.Event) { e.Tick++ }, api.ErrArg}, {1, func(e *api.Event) { e.Tick = -1 }, api.ErrArg},
		{1, func(e *api.Event) { e.Kind = 7 }, api.ErrArg}, {1, func(e *api.Event) { e.Kind = -1 }, api.ErrArg},
		{1, func(e *api.Event) { e.Refs = make([]api.Name, 17) }, api.ErrLimit}, {1, func(e *api.Event) { e.Refs = []api.Name{{By: 5, Seq: 63}} }, api.ErrArg}, {1, func(e *api.Event) { e.Refs = []api.Name{{By: 1}, {By: 1}} }, api.ErrArg}, {1, func(e *api.Event) { e.Refs = []api.Name{{By: 6}} }, api.ErrArg},
		{1, func(e *api.Event) { e.Op.N = 1 }, api.ErrArg}, {1, func(e *api.Event) { e.Term.Lang = 1 }, api.ErrArg}, {1, func(e *api.Event) { e.ID.K = 1 }, api.ErrArg}, {1, func(e *api.Event) { e.Posts = make([]api.Post, 1) }, api.ErrArg}, {1, func(e *api.Event) { e.N = 1 }, api.ErrArg},
		{1, func(e *api.Event) { e.Posts = make([]api.Post, 17) }, api.ErrLimit}, {1, func(e *api.Event) { e.Term.Broader = make([]string, 9) }, api.ErrLimit},
		{0, func(e *api.Event) { e.Op.Text = strings.Repeat("x", 65537) }, api.ErrLimit}, {0, func(e *api.Event) { e.ID.K = 1 }, api.ErrArg}, {0, func(e *api.Event) { e.Term.Name = "x" }, api.ErrArg},
		{2, func(e *api.Event) { e.Term.Name = "" }, api.ErrArg}, {2, func(e *api.Event) { e.Term.Name = "a @" }, api.ErrArg}, {2, func(e *api.Event) { e.Term.Name = long }, api.ErrArg}, {2, func(e *api.Event) { e.Term.Name = long[1:] }, api.OK},
		{2, func(e *api.Event) { e.Term.See = " " }, api.ErrArg}, {2, func(e *api.Event) { e.Term.See = "" }, api.OK}, {2, func(e *api.Event) { e.Term.Kind = 3 }, api.ErrArg}, {2, func(e *api.Event) { e.Term.Lang = 4 }, api.ErrArg}, {2, func(e *api.Event) { e.Term.Broader[0] = "" }, api.ErrArg}, {2, func(e *api.Event) { e.N = 1 }, api.ErrArg},
		{2, func(e *api.Event) { e.Term.Broader = slices.Repeat([]string{"x"}, 8) }, api.OK}, {2, func(e *api.Event) { e.Op.Text = strings.Repeat("x", 65537) }, api.ErrArg},
		{3, func(e *api.Event) { e.Posts[0].ID.K = 0 }, api.ErrArg}, {3, func(e *api.Event) { e.Posts[0].Path = nil }, api.ErrArg}, {3, func(e *api.Event) { e.Posts[0].Path = slices.Repeat([]string{"x"}, 5) }, api.ErrArg}, {3, func(e *api.Event) { e.Posts[0].Path[0] = "@" }, api.ErrArg},
		{5, func(e *api.Event) { e.N++ }, api.ErrArg}, {6, func(e *api.Event) { e.N = -1 }, api.ErrArg}, {6, func(e *api.Event) { e.Posts = make([]api.Post, 1) }, api.ErrArg},
	} {
		e := kinds()[x.kind]
		x.change(&e)
		if err := Valid(e); err != x.e {
			t.Error("P10.1:", i, err)
		}
		if s, err := Seal(e, "k"); err != x.e || (s == "") != (err != api.OK) || Opens(e, "k", "") != api.ErrSum && Opens(e, "k", "") != err {
			t.Error("P10.5:", i, err)
		}
	}
}

func TestOrder(t *testing.T) {
	l := []api.Event{{Tick: 2, By: 1}, {Tick: 2, By: 0, Seq: 5}, {Tick: 1, By: 4}, {Tick: 2, By: 0, Seq: 5, N: 7}, {Tick: 2, By: 0, Seq: 4}}
	var got []int
	for _, e := range Sort(l) {
		got = append(got, e.Tick*100+e.By*10+e.Seq, e.N)
	}
	if !slices.Equal(got, []int{140, 0, 204, 0, 205, 0, 205, 7, 210, 0}) {
		t.Error("P10.2:", got)
	}
	if !Before(l[2], l[0]) || Before(l[1], l[3]) || !Before(l[1], l[0]) || Before(l[0], l[0]) {
		t.Error("P10.2: Before")
	}
	if Find(l, api.Name{Seq: 5}) != 1 || Find(l, api.Name{By: 3}) != -1 || Find(nil, api.Name{}) != -1 || Name(l[0]) != (api.Name{By: 1}) {
		t.Error("P10.2: Find")
	}
	all := kinds()
	for i, a := range all {
		for k, b := range all {
			if Same(a, b) != (i == k) {
				t.Error("P10.2: Same:", i, k)
			}
		}
	}
	s := Sort(all)
	s[0].Op.Texts[0], s[0].Refs[0].By = "changed", 4
	if all[0].Op.Texts[0] != "x" || all[0].Refs[0].By != 1 {
		t.Error("P10.2: memory is shared")
	}
}

func TestClosed(t *testing.T) {
	early := second
	early.Tick = 3
	hold := api.Event{By: 2, Tick: 1, Kind: api.EvHold, N: -1}
	for i, x := range []struct {
		l []api.Event
		n int
		e api.Errno
	}{{nil, 0, api.OK}, {[]api.Event{second, first}, 2, api.OK}, {[]api.Event{first, early}, 1, api.ErrRange}, {[]api.Event{second}, 0, api.ErrNeed}, {[]api.Event{first, first}, 1, api.ErrTwice}, {[]api.Event{hold}, 0, api.ErrArg},
		{[]api.Event{first, {Kind: api.EvEdition, Seq: 2, Tick: 5}}, 1, api.ErrNeed}, {[]api.Event{first, {Kind: api.EvEdition, Seq: 1, Tick: 3}}, 1, api.ErrRange}, {[]api.Event{first, {Kind: api.EvEdition, Seq: 1, Tick: 2}}, 0, api.ErrNeed},
		{make([]api.Event, 385), 0, api.ErrLimit}, {[]api.Event{first, {Kind: api.EvEdition, By: 1, Tick: 3, Refs: []api.Name{{}, {By: 4}}}}, 1, api.ErrNeed}} {
		if n, e := Closed(x.l); n != x.n || e != x.e {
			t.Error("P10.3:", i, n, e)
		}
	}
}

func TestClosedProperties(t *testing.T) {
	r := rand.New(rand.NewSource(1))
	for range 200 {
		var l []api.Event
		counts := [3]int{}
		for i := range r.Intn(12) {
			e := api.Event{By: r.Intn(3), Tick: 10 + i - i%2, Kind: api.EvEdition}
			e.Seq = counts[e.By]
			counts[e.By]++
			if i > 2 {
				e.Refs = []api.Name{Name(l[r.Intn(i-2)])}
			}
			l = append(l, e)
		}
		n, e := Closed(l)
		mixed := slices.Clone(l)
		r.Shuffle(len(l), func(i, j int) { mixed[i], mixed[j] = mixed[j], mixed[i] })
		if !reflect.DeepEqual(Sort(mixed), Sort(l)) {
			t.Fatal("P10.6:", l)
		}
		if n2, e2 := Closed(mixed); n2 != n || e2 != e {
			t.Fatal("P10.3: another order:", n, n2, e, e2)
		}
		if e != api.OK {
			continue
		}
		for k := range l {
			if n, e := Closed(Sort(l)[:k]); n != k || e != api.OK {
				t.Fatal("P10.7:", k, n, e)
			}
		}
		for k := range l {
			l[k].Tick += 1000
		}
		if _, e := Closed(l); e != api.OK {
			t.Fatal("P10.9:", e)
		}
	}
}

func TestBytes(t *testing.T) {
	if b := Encode(first); !slices.Equal(b, slices.Concat(wire.Ints([]int{0, 0, 3, 1}), wire.Ints(nil))) {
		t.Error("P10.4:", b)
	}
	all := kinds()
	k := []string{"king", "of Rome"}
	want := [][]byte{
		slices.Concat(wire.Ints([]int{0, 0, 0, 0}), wire.Ints([]int{1, 0, 1, 3, 2, 0}), edit.Encode(all[0].Op)),
		slices.Concat(wire.Ints([]int{5, 63, api.MaxTick, 1}), wire.Ints(nil)),
		slices.Concat(wire.Ints([]int{0, 0, 0, 2}), wire.Ints(nil), wire.Ints([]int{2, 3}), wire.Strings([]string{"king", "ruler", "man"})),
		slices.Concat(wire.Ints([]int{0, 0, 0, 3}), wire.Ints(nil), wire.Ints([]int{1, 2, 3}), wire.Int(2), wire.Int(1), wire.Strings(k), wire.Int(0), wire.Strings([]string{"a", "b", "c", "d"})),
		slices.Concat(wire.Ints([]int{0, 0, 0, 4}), wire.Ints(nil), wire.Ints([]int{-9, 0, 0}), wire.Int(0)),
		slices.Concat(wire.Ints([]int{0, 0, 0, 5}), wire.Ints(nil), wire.Ints([]int{1, 2, 3, api.MaxTick})),
		slices.Concat(wire.Ints([]int{0, 0, 0, 6}), wire.Ints(nil), wire.Ints([]int{0, 0, 0, 0})),
	}
	for i, e := range all {
		b := Encode(e)
		if !slices.Equal(b, want[i]) || Digest(e) != hash.Of(api.TagEvent, string(b)) {
			t.Error("P10.4:", i, b)
		}
		if s, err := Seal(e, "key"); s != hash.Mac("key", string(b)) || err != api.OK || Opens(e, "key", s) != api.OK || Opens(e, "kez", s) != api.ErrSum || Opens(e, "key", s+"x") != api.ErrSum {
			t.Error("P10.5:", i, err)
		}
		if x, used, err := Decode(append(slices.Clone(b), 0)); !Same(x, e) || used != len(b) || err != api.OK {
			t.Error("P10.8:", i, x, used, err)
		}
		for k := range b {
			if x, used, err := Decode(b[:k]); !Same(x, api.Event{}) || used != 0 || err != api.ErrForm {
				t.Error("P10.4:", i, k, x, used, err)
			}
		}
	}
}

func TestWrongBytes(t *testing.T) {
	head := func(kind int) []byte { return append(wire.Ints([]int{0, 0, 0, kind}), wire.Ints(nil)...) }
	invalid := kinds()[3]
	invalid.Posts = slices.Repeat(invalid.Posts[:1], 17)
	for i, b := range [][]byte{nil, wire.Ints([]int{0, 0, 0}), append(wire.Ints([]int{0, 0, 0, 1}), wire.Ints([]int{1})...), head(7), head(-1), slices.Concat(head(2), wire.Ints([]int{0}), wire.Strings([]string{"a", ""})),
		slices.Concat(head(2), wire.Ints([]int{0, 0}), wire.Strings([]string{"a"})), slices.Concat(head(3), wire.Ints([]int{0, 0, 0}), wire.Int(1), wire.Int(2), wire.Strings([]string{"a"})), slices.Concat(head(3), wire.Ints([]int{0, 0, 0}), wire.Int(-1)),
		slices.Concat(head(3), wire.Ints([]int{0, 0, 0}), wire.Int(1<<60)), Encode(invalid), Encode(api.Event{Tick: -1, Kind: 1}), slices.Concat(head(5), wire.Ints([]int{0, 0, 0})), slices.Concat(head(0), wire.Ints([]int{1}))} {
		if e, used, err := Decode(b); !Same(e, api.Event{}) || used != 0 || err != api.ErrForm {
			t.Error("P10.4:", i, e, used, err)
		}
	}
}
