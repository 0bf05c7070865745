package choose

import (
	"math"
	"math/rand"
	"slices"
	"testing"

	"passim/api"
)

func example(room int) Case {
	return Case{[][]Option{{{1, 4}, {3, 1}}, {{0, 5}, {2, 2}}}, []int{3, 1}, room}
}

func TestExample(t *testing.T) {
	for room, x := range map[int]struct {
		pick         []int
		lines, turns int
		dual         Cert
	}{3: {[]int{1, 0}, 3, 8, Cert{3, 2, 16}}, 2: {[]int{0, 0}, 1, 17, Cert{9, 2, 25}}, 5: {[]int{1, 1}, 5, 5, Cert{0, 1, 5}}} {
		c := example(room)
		pick, turns, e := Best(c)
		if !slices.Equal(pick, x.pick) || turns != x.turns || e != api.OK {
			t.Error("P32.3:", room, pick, turns, e)
		}
		if lines, turns, e := Cost(c, pick); lines != x.lines || turns != x.turns || e != api.OK {
			t.Error("P32.2:", room, lines, turns, e)
		}
		dual, e := Dual(c)
		if dual != x.dual || e != api.OK {
			t.Error("P32.5:", room, dual, e)
		}
		if b, e := Bound(c, dual.P, dual.Q); b != dual || e != api.OK {
			t.Error("P32.4:", room, b, e)
		}
		if turns, least, e := Check(c, pick, dual); turns != x.turns || least != (dual.Bound+dual.Q-1)/dual.Q || e != api.OK {
			t.Error("P32.6:", room, turns, least, e)
		}
	}
	_, _, e := Best(example(0))
	_, e2 := Dual(example(0))
	_, _, e3 := Greedy(example(0))
	_, _, e4 := Cost(example(0), []int{0, 0})
	if l := []api.Errno{e, e2, e3, e4}; !slices.Equal(l, slices.Repeat([]api.Errno{api.ErrWide}, 4)) {
		t.Error("P32.2, P32.3, P32.5, P32.7:", l)
	}
	if b, e := Bound(example(0), 2, 1); b != (Cert{2, 1, 14}) || e != api.OK {
		t.Error("P32.4:", b, e)
	}
	b, _ := Bound(example(5), 9, 2)
	if _, least, e := Check(example(5), []int{1, 1}, b); least != int(math.Ceil(float64(b.Bound)/2)) || b.Bound >= 0 || e != api.OK {
		t.Error("P32.6: a negative bound:", b, least, e)
	}
}

func TestErrors(t *testing.T) {
	one := [][]Option{{{1, 1}}}
	for i, x := range []struct {
		c Case
		e api.Errno
	}{{Case{}, api.OK}, {Case{make([][]Option, 65), nil, 0}, api.ErrLimit}, {Case{[][]Option{make([]Option, 9)}, nil, -1}, api.ErrLimit}, {Case{one, nil, 5}, api.ErrArg}, {Case{one, []int{1}, -1}, api.ErrArg}, {Case{one, []int{1}, 4097}, api.ErrArg}, {Case{one, []int{1024}, 4096}, api.OK}, {Case{one, []int{1025}, 4}, api.ErrArg}, {Case{one, []int{-1}, 4}, api.ErrArg},
		{Case{[][]Option{{}}, []int{1}, 4}, api.ErrArg}, {Case{[][]Option{{{65, 0}}}, []int{1}, 4}, api.ErrArg}, {Case{[][]Option{{{-1, 0}}}, []int{1}, 4}, api.ErrArg}, {Case{[][]Option{{{0, 65}}}, []int{1}, 4}, api.ErrArg}, {Case{[][]Option{{{0, -1}}}, []int{1}, 4}, api.ErrArg}} {
		pick := make([]int, len(x.c.Items))
		_, _, e1 := Cost(x.c, pick)
		_, _, e2 := Best(x.c)
		_, e3 := Bound(x.c, 0, 1)
		d, e4 := Dual(x.c)
		_, _, e5 := Check(x.c, pick, d)
		_, _, e6 := Greedy(x.c)
		if e := Valid(x.c); e != x.e || e1 != e || e2 != e || e3 != e || e4 != e || e5 != e || e6 != e {
			t.Error("P32.1:", i, e, e1, e2, e3, e4, e5, e6)
		}
	}
	c := example(3)
	for i, pick := range [][]int{nil, {0}, {0, 0, 0}, {2, 0}, {-1, 0}} {
		_, _, e := Cost(c, pick)
		_, _, e2 := Check(c, pick, Cert{})
		if e != api.ErrArg || e2 != e {
			t.Error("P32.2, P32.6:", i, e, e2)
		}
	}
	for _, p := range [][2]int{{-1, 1}, {1<<20 + 1, 1}, {1, 0}, {1, 1<<20 + 1}} {
		if b, e := Bound(c, p[0], p[1]); b != (Cert{}) || e != api.ErrRange {
			t.Error("P32.4:", p, e)
		}
		if _, _, e := Check(c, []int{0, 0}, Cert{p[0], p[1], c.bound(p[0], p[1])}); e != api.ErrProof {
			t.Error("P32.6:", p, e)
		}
	}
	if _, e := Bound(c, 1<<20, 1<<20); e != api.OK {
		t.Error("P32.4:", e)
	}
	if _, _, e := Check(c, []int{0, 0}, Cert{3, 2, 17}); e != api.ErrProof {
		t.Error("P32.6:", e)
	}
}

func random(r *rand.Rand) Case {
	c := Case{Room: r.Intn(20)}
	for range r.Intn(5) {
		var l []Option
		for range 1 + r.Intn(4) {
			l = append(l, Option{r.Intn(7), r.Intn(7)})
		}
		c.Items, c.Weights = append(c.Items, l), append(c.Weights, r.Intn(4))
	}
	return c
}

// brute finds the best choice by trying all.
func brute(c Case) []int {
	var best []int
	now := make([]int, len(c.Items))
	var try func(i int)
	try = func(i int) {
		if i < len(now) {
			for k := range c.Items[i] {
				now[i] = k
				try(i + 1)
			}
			return
		}
		if sum := c.total(now); sum[1] <= c.Room && (best == nil || sum.less(c.total(best))) {
			best = append([]int{}, now...)
		}
	}
	try(0)
	return best
}

func TestProperties(t *testing.T) {
	r := rand.New(rand.NewSource(1))
	for range 1500 {
		c := random(r)
		pick, turns, e := Best(c)
		want := brute(c)
		if (e == api.OK) != (want != nil) || e == api.OK && !slices.Equal(pick, want) {
			t.Fatal("P32.3:", c, pick, want, e)
		}
		if e != api.OK {
			continue
		}
		dual, _ := Dual(c)
		quick, more, _ := Greedy(c)
		for _, x := range [][]int{pick, quick} {
			if a, b, e := Check(c, x, dual); a < b || e != api.OK {
				t.Fatal("P32.8:", c, x, dual, a, b, e)
			}
		}
		if turns > more {
			t.Fatal("P32.8: the quick choice is better:", c)
		}
		checkPrices(t, c, dual)
		checkQuick(t, c, quick)
		room, option := c, c
		room.Room++
		if _, n, _ := Best(room); n > turns {
			t.Fatal("P32.9:", c)
		}
		if len(c.Items) > 0 {
			option.Items = slices.Clone(c.Items)
			option.Items[0] = append(slices.Clone(c.Items[0]), Option{r.Intn(5), r.Intn(5)})
			if _, n, _ := Best(option); n > turns {
				t.Fatal("P32.9:", c)
			}
			less := Case{c.Items[1:], c.Weights[1:], c.Room}
			if _, n, e := Best(less); n > turns || e != api.OK {
				t.Fatal("P32.9:", c)
			}
			turned := Case{slices.Clone(c.Items), slices.Clone(c.Weights), c.Room}
			slices.Reverse(turned.Items)
			slices.Reverse(turned.Weights)
			_, n, _ := Best(turned)
			if d, _ := Dual(turned); d != dual || n != turns {
				t.Fatal("P32.11:", c)
			}
			for i := range turned.Weights {
				turned.Weights[i] = 5 * c.Weights[i]
			}
			turned.Items = c.Items
			if p, _, _ := Best(turned); !slices.Equal(p, pick) {
				t.Fatal("P32.11:", c)
			}
		}
	}
}

func checkPrices(t *testing.T, c Case, dual Cert) {
	if p, q := reduce(dual.P, dual.Q); p != dual.P || q != dual.Q {
		t.Fatal("P32.5:", dual)
	}
	for q := 1; q <= 7; q++ {
		for p := range 30 * q {
			b, _ := Bound(c, p, q)
			if more := b.Bound*dual.Q - dual.Bound*q; more > 0 || more == 0 && p*dual.Q < dual.P*q {
				t.Fatal("P32.5, P32.8:", c, dual, b)
			}
			var pick []int
			for i := range c.Items {
				best := 0
				for k := range c.Items[i] {
					if a, b := c.option(i, k), c.option(i, best); a[0]*q+a[1]*p < b[0]*q+b[1]*p {
						best = k
					}
				}
				pick = append(pick, best)
			}
			if sum := c.total(pick); sum[1] == c.Room || p == 0 && sum[1] <= c.Room {
				if _, turns, _ := Best(c); turns != sum[0] || turns*q != b.Bound {
					t.Fatal("P32.10:", c, p, q)
				}
			}
		}
	}
}

// checkQuick makes the quick choice again, as the chapter describes it.
func checkQuick(t *testing.T, c Case, got []int) {
	var pick []int
	for i := range c.Items {
		best := 0
		for k, o := range c.Items[i] {
			b := c.Items[i][best]
			if o.Lines < b.Lines || o.Lines == b.Lines && o.Turns < b.Turns {
				best = k
			}
		}
		pick = append(pick, best)
	}
	for {
		rate, at := 0.0, [2]int{-1, 0}
		for i := range c.Items {
			for k := range c.Items[i] {
				now := c.option(i, pick[i])
				next := slices.Clone(pick)
				next[i] = k
				o := c.option(i, k)
				if o[1] > now[1] && o[0] < now[0] && c.total(next)[1] <= c.Room {
					if x := float64(now[0]-o[0]) / float64(o[1]-now[1]); x > rate+1e-9 {
						rate, at = x, [2]int{i, k}
					}
				}
			}
		}
		if at[0] < 0 {
			break
		}
		pick[at[0]] = at[1]
	}
	if !slices.Equal(pick, got) {
		t.Fatal("P32.7:", c, got, pick)
	}
}
