package refer

import (
	"math/bits"
	"math/rand"
	"slices"
	"testing"

	"passim/api"
	"passim/vocabulary"
)

var (
	heads   = []string{"king", "ode", "ruler"}
	example = []Ref{{"emperor", "king", false}, {"ruler", "king", true}, {"kaiser", "emperor", false}, {"song", "poem", false}, {"emperor", "ruler", false}}
)

func TestExample(t *testing.T) {
	if n, e := Valid(example, heads); n != 3 || e != api.ErrNone {
		t.Error("P30.2:", n, e)
	}
	three := example[:3]
	if n, e := Valid(three, heads); n != 3 || e != api.OK {
		t.Error("P30.2:", n, e)
	}
	if w, ok := Way(three, heads, "kaiser", "king"); !slices.Equal(w, []string{"kaiser", "emperor", "king"}) || !ok {
		t.Error("P30.3:", w, ok)
	}
	for _, x := range [][2]string{{"kaiser", "ode"}, {"kaiser", "emperor"}, {"song", "song"}, {"zz", "king"}} {
		if w, ok := Way(three, heads, x[0], x[1]); len(w) > 0 || ok {
			t.Error("P30.3:", x, w, ok)
		}
	}
	if w, ok := Way(nil, heads, "ode", "ode"); !slices.Equal(w, []string{"ode"}) || !ok {
		t.Error("P30.3:", w, ok)
	}
	for most, want := range map[int][]string{-1: nil, 0: nil, 1: nil, 2: {"king"}, 9: {"king"}} {
		if r := Reach(three, heads, "kaiser", most); !slices.Equal(r, want) {
			t.Error("P30.4:", most, r)
		}
	}
	if r := Reach(three, []string{"ruler", "king", "ruler"}, "ruler", 1); !slices.Equal(r, []string{"king", "ruler"}) {
		t.Error("P30.4:", r)
	}
	if n, p := Far(three, heads); n != 2 || p != [2]string{"kaiser", "king"} {
		t.Error("P30.5:", n, p)
	}
	if n, p := Far(example, nil); n != 0 || p != [2]string{} {
		t.Error("P30.5:", n, p)
	}
	if n, p := Far(nil, heads); n != 0 || p != [2]string{"king", "king"} {
		t.Error("P30.5:", n, p)
	}
	if left, dead := Repair(example, heads); !slices.Equal(left, []int{3, 4}) || !slices.Equal(dead, []string{"song"}) {
		t.Error("P30.6:", left, dead)
	}
	if n, e := Valid([]Ref{{"a", "b", false}, {"b", "a", false}}, nil); n != 0 || e != api.ErrCycle {
		t.Error("P30.2:", n, e)
	}
}

func TestValid(t *testing.T) {
	see, also := func(a, b string) Ref { return Ref{a, b, false} }, func(a, b string) Ref { return Ref{a, b, true} }
	for i, x := range []struct {
		l []Ref
		n int
		e api.Errno
	}{
		{nil, 0, api.OK}, {[]Ref{also("king", "ode"), also("king", "ode")}, 1, api.ErrTwice}, {[]Ref{see("x", "ode"), see("x", "ode")}, 1, api.ErrTwice}, {[]Ref{see("king", "ode")}, 0, api.ErrName}, {[]Ref{also("x", "ode")}, 0, api.ErrName}, {[]Ref{see("x", "ode"), see("x", "king")}, 1, api.ErrClash},
		{[]Ref{also("king", "x"), see("x", "ode")}, 0, api.ErrNone}, {[]Ref{see("y", "x"), see("x", "ode")}, 2, api.OK}, {[]Ref{see("y", "x")}, 0, api.ErrNone}, {[]Ref{also("king", "king")}, 0, api.ErrCycle}, {[]Ref{see("x", "x")}, 0, api.ErrCycle}, {[]Ref{see("z", "x"), see("x", "y"), see("y", "x")}, 1, api.ErrCycle},
		{[]Ref{also("king", "ode"), also("ode", "king")}, 2, api.OK}, {[]Ref{see("king", "x")}, 0, api.ErrName}, {[]Ref{see("x", "ode"), see("x", "zz")}, 1, api.ErrClash}, {[]Ref{see("", "ode")}, 1, api.OK},
	} {
		if n, e := Valid(x.l, heads); n != x.n || e != x.e {
			t.Error("P30.2:", i, n, e)
		}
	}
	if l := Sort([]Ref{also("b", "a"), see("b", "a"), see("a", "b"), also("b", "a"), see("a", "a")}); !slices.Equal(l, []Ref{see("a", "a"), see("a", "b"), see("b", "a"), also("b", "a")}) {
		t.Error("P30.2:", l)
	}
}

func TestOf(t *testing.T) {
	terms := []api.Term{{Name: "emperor", See: "king"}, {Name: "kaiser", See: "zz"}, {Name: "king", Broader: []string{"man", "ruler"}}, {Name: "man"}, {Name: "ode", See: "ruler"}, {Name: "ruler"}, {Name: "zz"}}
	if l := Of(terms, heads); !slices.Equal(l, []Ref{{"emperor", "king", false}, {"ruler", "king", true}}) {
		t.Error("P30.1:", l)
	}
	if l := Of([]api.Term{{Name: "b"}, {Name: "a", See: "b"}}, []string{"b"}); len(l) > 0 {
		t.Error("P30.1:", l)
	}
}

func TestCheck(t *testing.T) {
	for i, x := range []struct {
		left []int
		dead []string
		e    api.Errno
	}{
		{[]int{3, 4}, []string{"song"}, api.OK}, {[]int{0, 3}, []string{"song"}, api.OK}, {[]int{4, 3}, []string{"song"}, api.ErrArg}, {[]int{3, 5}, []string{"song"}, api.ErrArg}, {[]int{-1, 3}, []string{"song"}, api.ErrArg}, {[]int{3, 4}, []string{"song", "song"}, api.ErrArg},
		{[]int{4}, []string{"song"}, api.ErrNone}, {[]int{3}, []string{"song"}, api.ErrClash}, {[]int{3, 4}, nil, api.ErrProof}, {[]int{1, 3, 4}, []string{"song"}, api.ErrProof}, {[]int{2, 3, 4}, []string{"song"}, api.ErrProof}, {[]int{2, 3, 4}, []string{"kaiser", "song"}, api.ErrProof},
		{[]int{3, 4}, []string{"king", "song"}, api.ErrProof}, {[]int{3, 4}, []string{"a", "song"}, api.OK}, {[]int{0, 2, 3, 4}, []string{"emperor", "kaiser", "song"}, api.ErrProof},
	} {
		if e := Check(example, heads, x.left, x.dead); e != x.e {
			t.Error("P30.7:", i, e)
		}
	}
}

func random(r *rand.Rand, n int) ([]Ref, []string) {
	names := []string{"a", "b", "c", "d", "e"}
	var l []Ref
	for range r.Intn(n) {
		l = append(l, Ref{names[r.Intn(5)], names[r.Intn(5)], r.Intn(3) == 0})
	}
	return l, names[:r.Intn(3)]
}

// fewest returns how many references have to be left out at least, by trying all.
func fewest(l []Ref, heads []string) int {
	least := len(l)
	for set := range uint(1) << len(l) {
		var rest []Ref
		for i, x := range l {
			if set>>i&1 == 0 {
				rest = append(rest, x)
			}
		}
		if _, e := Valid(rest, heads); e == api.OK {
			least = min(least, bits.OnesCount(set))
		}
	}
	return least
}

func TestRepair(t *testing.T) {
	r := rand.New(rand.NewSource(1))
	for range 600 {
		l, heads := random(r, 9)
		left, dead := Repair(l, heads)
		if e := Check(l, heads, left, dead); e != api.OK || len(left) != fewest(l, heads) {
			t.Fatal("P30.8:", l, heads, left, dead, e)
		}
		var rest []Ref
		for i, x := range l {
			if !slices.Contains(left, i) {
				rest = append(rest, x)
			}
		}
		if again, _ := Repair(rest, heads); len(again) > 0 {
			t.Fatal("P30.8:", l, heads, again)
		}
		if _, e := Valid(l, heads); e == api.OK && len(left) > 0 {
			t.Fatal("P30.8: a valid list:", l, heads, left)
		}
	}
	l := []Ref{{"x", "y", false}, {"x", "king", false}, {"y", "king", false}, {"z", "y", false}, {"z", "x", false}, {"w", "z", false}, {"king", "ode", false}}
	if left, dead := Repair(l, heads); !slices.Equal(left, []int{0, 4, 6}) || len(dead) > 0 {
		t.Error("P30.6:", left, dead)
	}
}

func TestSteps(t *testing.T) {
	r := rand.New(rand.NewSource(2))
	for range 500 {
		l, heads := random(r, 12)
		for _, from := range []string{"a", "b", "c", "d"} {
			for _, to := range heads {
				way, ok := Way(l, heads, from, to)
				for i := 1; i < len(way); i++ {
					if !slices.ContainsFunc(l, func(x Ref) bool { return x.From == way[i-1] && x.To == way[i] }) {
						t.Fatal("P30.9:", l, way)
					}
				}
				for most := range 6 {
					in := slices.Contains(Reach(l, heads, from, most), to)
					if in != (ok && len(way)-1 <= most) {
						t.Fatal("P30.9:", l, from, to, most)
					}
					if more := append(slices.Clone(l), Ref{"a", "d", true}); in && !slices.Contains(Reach(more, heads, from, most), to) {
						t.Fatal("P30.9: further references")
					}
				}
				if n, _ := Far(l, heads); ok && n < len(way)-1 {
					t.Fatal("P30.5:", l, n, way)
				}
				checkFirst(t, l, from, to, way)
			}
		}
	}
}

func checkFirst(t *testing.T, l []Ref, from, to string, way []string) {
	var found []string
	for n := 0; n <= 5 && found == nil; n++ {
		var walk func(way []string)
		walk = func(way []string) {
			if len(way) == n+1 {
				if way[n] == to && (found == nil || slices.Compare(way, found) < 0) {
					found = slices.Clone(way)
				}
				return
			}
			for _, x := range l {
				if x.From == way[len(way)-1] {
					walk(append(slices.Clone(way), x.To))
				}
			}
		}
		walk([]string{from})
	}
	if !slices.Equal(found, way) {
		t.Fatal("P30.3:", l, from, to, way, found)
	}
}

func TestTerms(t *testing.T) {
	terms := []api.Term{{Name: "a", Broader: []string{"b"}}, {Name: "b", Broader: []string{"c", "d"}}, {Name: "c"}, {Name: "d"}, {Name: "e", See: "a"}, {Name: "f", See: "d"}, {Name: "g", See: "c"}}
	for set := range 1 << 7 {
		var heads []string
		for i, x := range terms {
			if set>>i&1 == 1 {
				heads = append(heads, x.Name)
			}
		}
		l := Of(terms, heads)
		if _, e := Valid(l, heads); e != api.OK {
			t.Fatal("P30.10:", heads, e)
		}
		for _, h := range heads {
			for _, alias := range vocabulary.Aliases(terms, h) {
				if w, _ := Way(l, heads, alias, h); !slices.Contains(heads, alias) && len(w) != 2 {
					t.Fatal("P30.10:", heads, alias)
				}
			}
			for _, below := range Reach(l, heads, h, 9) {
				if below != h && !slices.Contains(vocabulary.Above(terms, below), h) {
					t.Fatal("P30.10:", heads, h, below)
				}
			}
		}
	}
}
