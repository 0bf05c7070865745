package collate

import (
	"math/rand"
	"slices"
	"strings"
	"testing"

	"passim/api"
)

func alphabet() []string {
	var l []string
	for c := byte('a'); c <= 'z'; c++ {
		l = append(l, string([]byte{c, c - 32}))
	}
	return l
}

func spec() Spec {
	return Spec{Words: true, Skip: []string{"the"}, Numbers: true, Order: alphabet()}
}

func TestExample(t *testing.T) {
	s := spec()
	if k, e := Key(s, "The A b12"); !slices.Equal(k, []int{2, 0, 3, 1, 2, 1, 2, -1, 1, 0, 0}) || e != api.OK {
		t.Error("P31.2:", k, e)
	}
	if l, e := Sort(s, []string{"newark", "the new york", "new york", "New"}); !slices.Equal(l, []string{"New", "the new york", "new york", "newark"}) || e != api.OK {
		t.Error("P31.4:", l, e)
	}
	for _, x := range []struct {
		a, b string
		want int
	}{{"the", "th", 1}, {"x 9", "x 10", -1}, {"x 9", "x 010", -1}, {"x 010", "x 10", 1}, {"the the", "the", 0}, {"a-b", "ab", 0}, {"", "", 0}, {"", "a", -1}, {"x00", "x0", 1}} {
		if n, e := Compare(s, x.a, x.b); n != x.want || e != api.OK {
			t.Error("P31.3:", x, n, e)
		}
	}
	if l, e := Paths(s, [][]string{{"b"}, {"a", "c"}, {"a"}, {"a", "b"}}); !slices.Equal(l, []int{2, 3, 1, 0}) || e != api.OK {
		t.Error("P31.5:", l, e)
	}
	if l, e := Paths(s, [][]string{{"the a"}, {}, {"a"}, nil}); !slices.Equal(l, []int{1, 3, 0, 2}) || e != api.OK {
		t.Error("P31.5:", l, e)
	}
	if l, ok, e := Total(3, [][2]int{{0, 0}, {1, 1}, {2, 2}, {0, 1}, {1, 2}, {2, 0}}); !slices.Equal(l, []int{0, 1, 2}) || ok || e != api.OK {
		t.Error("P31.6:", l, ok, e)
	}
	if l, e := Rank(2, [][2]int{{0, 0}, {1, 1}, {1, 0}}); !slices.Equal(l, []int{1, 0}) || e != api.OK {
		t.Error("P31.7:", l, e)
	}
	letters := Spec{Order: []string{"a", "b", "01"}}
	if k, _ := Key(letters, "b 10 ax"); !slices.Equal(k, []int{3, 4, 4, 2, -1, 0, 1, 0, 0}) {
		t.Error("P31.2:", k)
	}
	if k, _ := Key(Spec{Words: true, Numbers: true}, " 007  - 0 "); !slices.Equal(k, []int{1, 1, 7, 0, 0, 1, 0, -1, 2, 1}) {
		t.Error("P31.2:", k)
	}
}

func TestErrors(t *testing.T) {
	long := strings.Repeat("x", 4097)
	for i, x := range []struct {
		s Spec
		e api.Errno
	}{{Spec{}, api.OK}, {Spec{Order: make([]string, 65)}, api.ErrLimit}, {Spec{Skip: make([]string, 17)}, api.ErrLimit}, {Spec{Order: []string{""}}, api.ErrArg}, {Spec{Order: []string{" "}}, api.ErrArg}, {Spec{Order: []string{"\x7f"}}, api.ErrArg}, {Spec{Order: []string{"~!"}}, api.OK},
		{Spec{Skip: []string{""}}, api.ErrArg}, {Spec{Skip: []string{"The"}}, api.ErrArg}, {Spec{Skip: []string{long[:25]}}, api.ErrArg}, {Spec{Skip: []string{long[:24]}}, api.OK}, {Spec{Order: []string{"ab", "ca"}}, api.ErrTwice}, {Spec{Order: []string{"aa"}}, api.ErrTwice}, {Spec{Order: []string{"aa", ""}}, api.ErrArg}} {
		_, e1 := Key(x.s, "")
		_, e2 := Compare(x.s, "", "")
		_, e3 := Sort(x.s, nil)
		_, e4 := Paths(x.s, nil)
		_, e5 := Key(x.s, long)
		if e := Valid(x.s); e != x.e || e1 != e || e2 != e || e3 != e || e4 != e || e5 != api.ErrLimit && e5 != e {
			t.Error("P31.1:", i, e, e1, e2, e3, e4)
		}
	}
	_, e := Key(Spec{}, long)
	_, e2 := Compare(Spec{}, "", long)
	_, e3 := Sort(Spec{}, []string{"", long})
	_, e4 := Paths(Spec{}, [][]string{{"", long}})
	_, e5 := Sort(Spec{}, make([]string, 1001))
	_, e6 := Paths(Spec{}, make([][]string, 1001))
	if l := []api.Errno{e, e2, e3, e4, e5, e6}; !slices.Equal(l, slices.Repeat([]api.Errno{api.ErrLimit}, 6)) {
		t.Error("P31.2 to P31.5:", l)
	}
	if l, e := Sort(Spec{}, slices.Repeat([]string{"x"}, 1000)); len(l) != 1000 || e != api.OK {
		t.Error("P31.4:", e)
	}
	for i, x := range []struct {
		n     int
		pairs [][2]int
		e     api.Errno
	}{{65, nil, api.ErrLimit}, {1, make([][2]int, 4097), api.ErrLimit}, {-1, nil, api.ErrArg}, {2, [][2]int{{0, 2}}, api.ErrArg}, {2, [][2]int{{-1, 0}}, api.ErrArg}, {0, nil, api.OK}, {1, make([][2]int, 4096), api.OK}, {-1, [][2]int{{0, 0}}, api.ErrArg}} {
		_, _, e := Total(x.n, x.pairs)
		_, e2 := Rank(x.n, x.pairs)
		if e != x.e || e2 != e {
			t.Error("P31.6, P31.7:", i, e, e2)
		}
	}
	if l, ok, _ := Total(3, [][2]int{{0, 0}, {2, 2}, {0, 1}, {1, 2}}); !slices.Equal(l, []int{0, 2}) || ok {
		t.Error("P31.6:", l, ok)
	}
	if l, ok, _ := Total(2, [][2]int{{0, 0}, {0, 1}}); !slices.Equal(l, []int{1, 1}) || ok {
		t.Error("P31.6:", l, ok)
	}
	if l, e := Rank(2, [][2]int{{0, 0}}); len(l) > 0 || e != api.ErrRule {
		t.Error("P31.7:", e)
	}
}

func TestProperties(t *testing.T) {
	r := rand.New(rand.NewSource(1))
	some := func(from string) string {
		b := make([]byte, r.Intn(7))
		for i := range b {
			b[i] = from[r.Intn(len(from))]
		}
		return string(b)
	}
	for range 1500 {
		s := Spec{Words: r.Intn(2) == 0, Numbers: r.Intn(2) == 0, Order: [][]string{alphabet(), {"ba", "01", "AB"}, {"a9"}}[r.Intn(3)]}
		if r.Intn(2) == 0 {
			s.Skip = []string{"a", "ab"}
		}
		var l []string
		var pairs [][2]int
		for range 5 {
			l = append(l, some("abA 019-"))
		}
		less := make([]int, 5)
		for i, x := range l {
			for k, y := range l {
				n, _ := Compare(s, x, y)
				m, _ := Compare(s, y, x)
				if n != -m || i == k && n != 0 {
					t.Fatal("P31.8:", s, x, y)
				}
				if n <= 0 {
					pairs = append(pairs, [2]int{i, k})
				}
				if n > 0 {
					less[i]++
				}
			}
		}
		ranks, e := Rank(5, pairs)
		if _, ok, _ := Total(5, pairs); !ok || e != api.OK || !slices.Equal(ranks, less) {
			t.Fatal("P31.8, P31.9:", s, l)
		}
		sorted, _ := Sort(s, l)
		for i := range 4 {
			if n, _ := Compare(s, sorted[i], sorted[i+1]); n > 0 {
				t.Fatal("P31.8: Sort:", sorted)
			}
		}
		x := l[0]
		if len(s.Skip) > 0 && strings.Trim(x, " ") != "" {
			if n, _ := Compare(s, x, "Ab "+x); n != 0 {
				t.Fatal("P31.10:", s, x)
			}
		}
		if !s.Words && len(s.Skip) == 0 && !strings.ContainsAny(x, "0123456789") {
			if n, _ := Compare(s, x, strings.ReplaceAll(x, "a", "a ")); n != 0 {
				t.Fatal("P31.10:", s, x)
			}
		}
		if n, _ := Compare(s, x, x+" a"); len(s.Skip) == 0 && n != -1 {
			t.Fatal("P31.11:", s, x)
		}
		if n, _ := Compare(s, "a"+" "+x, "a"+"a"+x); s.Words && len(s.Skip) == 0 && n != -1 {
			t.Fatal("P31.11:", s, x)
		}
		a, b := r.Intn(999), r.Intn(999)
		text := func(n int) string { return "a" + strings.Repeat(" ", r.Intn(2)) }
		head := text(0)
		n, _ := Compare(s, head+number(a)+"b", head+number(b)+"b")
		if want := min(max(a-b, -1), 1); s.Numbers && n != want {
			t.Fatal("P31.10: numbers:", s, a, b, n)
		}
	}
}

func number(n int) string {
	if n < 10 {
		return string(rune('0' + n))
	}
	return number(n/10) + number(n%10)
}
