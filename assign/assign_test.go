package assign

import (
	"math"
	"math/rand"
	"reflect"
	"slices"
	"testing"
	"time"

	"passim/api"
)

func TestExamples(t *testing.T) {
	three := []int{0, 1, 2}
	for i, x := range []struct {
		c     Case
		pairs [][2]int
		loads []int
		p     Cert
	}{
		{Case{[]int{3, 2, 2}, 3, nil}, [][2]int{{0, 1}, {0, 2}, {1, 2}}, []int{5, 5, 4}, Cert{three, three, 5}},
		{Case{[]int{5, 1}, 3, nil}, [][2]int{{0, 1}, {0, 1}}, []int{6, 6, 0}, Cert{[]int{0}, nil, 5}},
		{Case{[]int{2, 2}, 3, [][2]int{{0, 2}, {1, 2}}}, [][2]int{{0, 1}, {0, 1}}, []int{4, 4, 0}, Cert{[]int{0, 1}, []int{0}, 4}},
		{Case{nil, 2, nil}, nil, []int{0, 0}, Cert{nil, []int{0}, 0}},
		{Case{[]int{4, 9, 9}, 6, nil}, [][2]int{{0, 1}, {2, 3}, {4, 5}}, []int{4, 4, 9, 9, 9, 9}, Cert{[]int{1}, nil, 9}},
	} {
		pairs, load, p, e := Find(x.c)
		if !slices.Equal(pairs, x.pairs) || load != slices.Max(x.loads) || !reflect.DeepEqual(p, x.p) || e != api.OK {
			t.Error("P26.3:", i, pairs, load, p, e)
		}
		if l, e := Loads(x.c, pairs); !slices.Equal(l, x.loads) || e != api.OK {
			t.Error("P26.2:", i, l, e)
		}
	}
}

func TestErrors(t *testing.T) {
	good := Case{[]int{3, 2}, 3, [][2]int{{1, 2}, {1, 2}}}
	for i, x := range []struct {
		c Case
		e api.Errno
	}{{good, api.OK}, {Case{make([]int, 65), 0, nil}, api.ErrLimit}, {Case{[]int{1}, 1, nil}, api.ErrArg}, {Case{[]int{1}, 7, nil}, api.ErrArg}, {Case{[]int{0}, 2, nil}, api.ErrArg}, {Case{[]int{1025}, 2, nil}, api.ErrArg}, {Case{[]int{1024}, 2, nil}, api.OK}, {Case{[]int{1}, 2, [][2]int{{1, 0}}}, api.ErrArg},
		{Case{[]int{1}, 2, [][2]int{{0, 2}}}, api.ErrArg}, {Case{[]int{1}, 2, [][2]int{{0, -1}}}, api.ErrArg}, {Case{[]int{1}, 2, [][2]int{{0, 1}}}, api.ErrNone}, {Case{[]int{1, 0}, 2, [][2]int{{0, 1}}}, api.ErrArg}, {Case{[]int{1}, math.MinInt, nil}, api.ErrArg}} {
		pairs, _, p, e2 := Find(x.c)
		_, e3 := Loads(x.c, pairs)
		_, e4 := Bound(x.c, p)
		_, e5 := Check(x.c, pairs, p)
		if e := Valid(x.c); e != x.e || e2 != e || e3 != e || e4 != e || e5 != e {
			t.Error("P26.1:", i, e, e2, e3, e4, e5)
		}
	}
	cert := Cert{[]int{0}, nil, 3}
	for i, pairs := range [][][2]int{nil, {{0, 1}}, {{1, 0}, {0, 1}}, {{0, 0}, {0, 1}}, {{0, 1}, {0, 2}}, {{0, 3}, {0, 1}}, {{-1, 0}, {0, 1}}} {
		_, e := Loads(good, pairs)
		_, e2 := Check(good, pairs, Cert{})
		if e != api.ErrArg || e2 != e {
			t.Error("P26.2, P26.5:", i, e, e2)
		}
	}
	for i, p := range []Cert{{}, {[]int{0}, nil, 2}, {[]int{0, 1}, nil, 3}, {[]int{2}, nil, 3}, {[]int{-1}, nil, 3}, {[]int{1, 0}, []int{0}, 5}, {[]int{0, 0}, []int{0}, 3}, {[]int{0}, []int{3}, 3}, {[]int{0}, []int{1, 0}, 3}, {[]int{0, 1}, []int{0, 1}, 3}} {
		_, e := Bound(good, p)
		_, e2 := Check(good, [][2]int{{0, 1}, {0, 1}}, p)
		if e != api.ErrProof || e2 != e {
			t.Error("P26.4, P26.5:", i, e, e2)
		}
	}
	// Both people take at least one place of the first passage, and both of the second one: (3 + 2 * 2) / 2.
	if n, e := Bound(good, Cert{[]int{0, 1}, []int{0, 1}, 4}); n != 4 || e != api.OK {
		t.Error("P26.4:", n, e)
	}
	if n, e := Check(good, [][2]int{{0, 1}, {0, 1}}, cert); n != 2 || e != api.OK {
		t.Error("P26.5:", n, e)
	}
}

// brute returns the first assignment with the least greatest load, by trying all.
func brute(c Case) [][2]int {
	var best [][2]int
	least := 0
	now := make([][2]int, len(c.Sizes))
	var place func(i int)
	place = func(i int) {
		if i == len(now) {
			if l, e := Loads(c, now); e == api.OK && (best == nil || slices.Max(l) < least) {
				best, least = slices.Clone(now), slices.Max(l)
			}
			return
		}
		for a := range c.People {
			for b := a + 1; b < c.People; b++ {
				now[i] = [2]int{a, b}
				place(i + 1)
			}
		}
	}
	place(0)
	return best
}

func random(r *rand.Rand, passages int) Case {
	for {
		c := Case{People: 2 + r.Intn(3)}
		for range passages {
			c.Sizes = append(c.Sizes, 1+r.Intn(9))
		}
		for range r.Intn(5) {
			if passages > 0 {
				c.Bars = append(c.Bars, [2]int{r.Intn(passages), r.Intn(c.People)})
			}
		}
		if Valid(c) == api.OK {
			return c
		}
	}
}

// bestCert looks for the best certificate among all of them.
func bestCert(c Case) Cert {
	best := Cert{Least: -1}
	for people := range 1 << c.People {
		var p []int
		for i := range c.People {
			if people>>i&1 == 1 {
				p = append(p, i)
			}
		}
		for some := range 1 << len(c.Sizes) {
			var s []int
			for i := range c.Sizes {
				if some>>i&1 == 1 {
					s = append(s, i)
				}
			}
			for n := range 80 {
				if _, e := Bound(c, Cert{s, p, n}); e != api.OK || n < best.Least {
					continue
				}
				if n > best.Least || len(p) < len(best.People) || len(p) == len(best.People) && slices.Compare(p, best.People) < 0 {
					best = Cert{s, p, n}
				}
			}
		}
	}
	return best
}

func TestProperties(t *testing.T) {
	r := rand.New(rand.NewSource(1))
	for range 150 {
		c := random(r, r.Intn(5))
		pairs, load, p, _ := Find(c)
		if want := brute(c); !slices.Equal(pairs, want) {
			t.Fatal("P26.3:", c, pairs, want)
		}
		gap, e := Check(c, pairs, p)
		if gap != load-p.Least || gap < 0 || e != api.OK {
			t.Fatal("P26.5, P26.6:", c, gap, e)
		}
		if b := bestCert(c); len(c.Sizes) < 4 && (b.Least != p.Least || !slices.Equal(b.People, p.People)) {
			t.Fatal("P26.3: the certificate:", c, p, b)
		}
		more := c
		if len(c.Sizes) > 0 {
			more.Sizes = slices.Clone(c.Sizes)
			more.Sizes[0]++
			more.Bars = append(slices.Clone(c.Bars), [2]int{r.Intn(len(c.Sizes)), r.Intn(c.People)})
			if _, load2, p2, e := Find(more); e == api.OK && (load2 < load || p2.Least < p.Least) {
				t.Fatal("P26.7:", c, more)
			}
		}
		thrice, turned := c, c
		thrice.Sizes = slices.Clone(c.Sizes)
		for i := range thrice.Sizes {
			thrice.Sizes[i] *= 3
		}
		if pairs2, load2, _, _ := Find(thrice); !slices.Equal(pairs, pairs2) || load2 != 3*load {
			t.Fatal("P26.8:", c)
		}
		turned.Bars = slices.Clone(c.Bars)
		for i := range turned.Bars {
			turned.Bars[i][1] = c.People - 1 - c.Bars[i][1]
		}
		if _, load2, p2, _ := Find(turned); load2 != load || p2.Least != p.Least {
			t.Fatal("P26.9:", c)
		}
	}
	for range 200 {
		c := random(r, 7+r.Intn(20))
		pairs, load, p, _ := Find(c)
		gap, e := Check(c, pairs, p)
		if gap != load-p.Least || gap < 0 || e != api.OK {
			t.Fatal("P26.6:", c, gap, e)
		}
	}
}

func TestQuick(t *testing.T) {
	c := Case{[]int{1, 5, 5, 2, 2, 2, 9}, 3, [][2]int{{6, 0}, {2, 1}}}
	// By sizes: 9 to 1 2; 5 (1) to 0 1; 5 (2) to 0 2; 2 to 0 1 with the loads 10 14 14; 2 to 0 1 with 12 16 14 to 0 2; with 14 16 16 to 0 1; 1 with 16 18 16 to 0 2.
	pairs, load, _, _ := Find(c)
	if want := [][2]int{{0, 2}, {0, 1}, {0, 2}, {0, 1}, {0, 2}, {0, 1}, {1, 2}}; !slices.Equal(pairs, want) {
		t.Error("P26.3:", pairs, load)
	}
	start := time.Now()
	Find(Case{[]int{1000, 999, 777, 801, 650, 823}, 6, nil})
	if time.Since(start) > 20*time.Second {
		t.Error("P26.3: the search takes too long")
	}
}
