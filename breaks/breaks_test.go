package breaks

import (
	"math"
	"math/rand"
	"reflect"
	"slices"
	"testing"

	"passim/api"
)

var example = []int{3, 2, 2, 5}

func TestExample(t *testing.T) {
	want := Cert{[]int{1, 3, 4}, []int{3, 2, 2, 1, 0}, []int{10, 1, 16, 0, 0}}
	c, e := Fill(example, 1, 6)
	if !reflect.DeepEqual(c, want) || e != api.OK {
		t.Error("P12.1:", c, e)
	}
	if e := Check(example, 1, 6, c); e != api.OK {
		t.Error("P12.2:", e)
	}
	if l, e := Greedy(example, 1, 6); !slices.Equal(l, []int{2, 3, 4}) || e != api.OK {
		t.Error("P12.4:", l, e)
	}
	for _, x := range []struct {
		ends        []int
		lines, cost int
		e           api.Errno
	}{{[]int{2, 3, 4}, 3, 16, api.OK}, {[]int{1, 4}, 0, 0, api.ErrWide}, {[]int{1, 3}, 0, 0, api.ErrRange}, {nil, 0, 0, api.ErrRange}, {[]int{0, 4}, 0, 0, api.ErrRange}, {[]int{2, 2, 4}, 0, 0, api.ErrRange}, {[]int{-1, 4}, 0, 0, api.ErrRange}, {[]int{1, 5}, 0, 0, api.ErrRange}, {[]int{1, math.MaxInt}, 0, 0, api.ErrRange}} {
		if n, c, e := Cost(example, 1, 6, x.ends); n != x.lines || c != x.cost || e != x.e {
			t.Error("P12.3:", x.ends, n, c, e)
		}
	}
	if c, e := Fill([]int{7}, 1, 6); e != api.ErrWide || len(c.Lines) != 0 {
		t.Error("P12.1:", e)
	}
	if _, e := Greedy([]int{7}, 1, 6); e != api.ErrWide {
		t.Error("P12.4:", e)
	}
	if c, e := Fill(nil, 1, 6); len(c.Ends) != 0 || !slices.Equal(c.Lines, []int{0}) || !slices.Equal(c.Costs, []int{0}) || e != api.OK || Check(nil, 1, 6, c) != api.OK {
		t.Error("P12.1:", c, e)
	}
	if n, c, e := Cost(nil, 0, 0, nil); n != 0 || c != 0 || e != api.OK {
		t.Error("P12.3:", n, c, e)
	}
	if _, _, e := Cost(nil, 0, 0, []int{0}); e != api.ErrRange {
		t.Error("P12.3:", e)
	}
}

func TestErrors(t *testing.T) {
	for i, x := range []struct {
		widths       []int
		blank, width int
		e            api.Errno
	}{{make([]int, 256), 0, 0, api.OK}, {make([]int, 257), -1, 0, api.ErrLimit}, {example, -1, 6, api.ErrArg}, {example, 1, -1, api.ErrArg}, {example, 4097, 6, api.ErrArg}, {example, 1, 4097, api.ErrArg}, {[]int{-1}, 1, 6, api.ErrArg}, {[]int{9, 4097}, 1, 6, api.ErrArg}, {[]int{4096}, 4096, 4096, api.OK}, {[]int{math.MinInt}, 1, 6, api.ErrArg}} {
		c, e := Fill(x.widths, x.blank, x.width)
		_, e2 := Greedy(x.widths, x.blank, x.width)
		_, _, e3 := Cost(x.widths, x.blank, x.width, []int{len(x.widths)})
		e4 := Check(x.widths, x.blank, x.width, c)
		if e != x.e || e2 != x.e || e3 != x.e || e4 != x.e {
			t.Error(i, e, e2, e3, e4)
		}
	}
}

func TestCheck(t *testing.T) {
	good, _ := Fill(example, 1, 6)
	for i, change := range []func(c *Cert){
		func(c *Cert) { c.Ends = []int{2, 3, 4} }, func(c *Cert) { c.Ends = nil }, func(c *Cert) { c.Ends[0] = -5 }, func(c *Cert) { c.Lines = c.Lines[:4] }, func(c *Cert) { c.Costs = append(c.Costs, 0) }, func(c *Cert) { c.Lines[4] = 1 }, func(c *Cert) { c.Costs[4] = 1 },
		func(c *Cert) { c.Lines[1] = 3 }, func(c *Cert) { c.Costs[2] = 17 }, func(c *Cert) { c.Lines[0]-- }, func(c *Cert) { c.Costs[0]-- }, func(c *Cert) { c.Lines[3] = -1 }, func(c *Cert) { c.Lines[3] = 257 }, func(c *Cert) { c.Costs[3] = -1 }, func(c *Cert) { c.Costs[3] = 1<<32 + 1 },
	} {
		c := Cert{slices.Clone(good.Ends), slices.Clone(good.Lines), slices.Clone(good.Costs)}
		change(&c)
		if e := Check(example, 1, 6, c); e != api.ErrProof {
			t.Error("P12.2:", i, e)
		}
	}
	low := Cert{good.Ends, good.Lines, []int{10, 1, 15, 0, 0}}
	if e := Check(example, 1, 6, low); e != api.OK {
		t.Error("P12.2: lesser numbers prove as much:", e)
	}
	if e := Check([]int{7}, 1, 6, Cert{[]int{1}, []int{1, 0}, []int{0, 0}}); e != api.ErrProof {
		t.Error("P12.2: a wide word:", e)
	}
}

// brute finds the best division by trying all.
func brute(widths []int, blank, width int) ([]int, int) {
	var best []int
	bestCost := 0
	n := len(widths)
	for set := range 1 << (n - 1) {
		var ends []int
		for i := range n - 1 {
			if set>>i&1 == 1 {
				ends = append(ends, i+1)
			}
		}
		ends = append(ends, n)
		lines, cost, e := Cost(widths, blank, width, ends)
		if e == api.OK && (best == nil || lines < len(best) || lines == len(best) && (cost < bestCost || cost == bestCost && slices.Compare(ends, best) < 0)) {
			best, bestCost = ends, cost
		}
	}
	return best, bestCost
}

func TestProperties(t *testing.T) {
	r := rand.New(rand.NewSource(1))
	for range 400 {
		width, blank := 4+r.Intn(8), r.Intn(3)
		widths := make([]int, 1+r.Intn(9))
		for i := range widths {
			widths[i] = r.Intn(5)
		}
		c, e := Fill(widths, blank, width)
		best, cost := brute(widths, blank, width)
		if e != api.OK || !slices.Equal(c.Ends, best) || c.Costs[0] != cost || Check(widths, blank, width, c) != api.OK {
			t.Fatal("P12.6:", widths, blank, width, c, best)
		}
		greedy, _ := Greedy(widths, blank, width)
		if _, other, e := Cost(widths, blank, width, greedy); e != api.OK || len(greedy) != len(best) || other < cost {
			t.Fatal("P12.5:", widths, greedy)
		}
		for i := range greedy[:len(greedy)-1] {
			more := slices.Clone(greedy)
			more[i]++
			if _, _, e := Cost(widths, blank, width, more); e == api.OK {
				t.Fatal("P12.4: a further word fits:", widths, greedy)
			}
		}
		first := c.Ends[0]
		rest, _ := Fill(widths[first:], blank, width)
		for i, end := range rest.Ends {
			if c.Ends[i+1] != end+first {
				t.Fatal("P12.7:", widths, c.Ends, rest.Ends)
			}
		}
		thrice := slices.Clone(widths)
		for i := range thrice {
			thrice[i] *= 3
		}
		scaled, _ := Fill(thrice, 3*blank, 3*width)
		wider, _ := Fill(widths, blank, width+1)
		if !slices.Equal(scaled.Ends, c.Ends) || scaled.Costs[0] != 9*c.Costs[0] || len(wider.Ends) > len(c.Ends) {
			t.Fatal("P12.8:", widths)
		}
	}
}
