package assign

import (
	"math/rand"
	"slices"
	"testing"

	"passim/api"
)

// scaled returns a case with all sizes multiplied.
func scaled(c Case, by int) Case {
	c.Sizes = slices.Clone(c.Sizes)
	for i := range c.Sizes {
		c.Sizes[i] *= by
	}
	return c
}

// checkFirst compares an assignment with the first one of the best that trying all of them finds.
func checkFirst(t *testing.T, c Case) {
	t.Helper()
	want := brute(c)
	l, _ := Loads(c, want)
	pairs, load, _, e := Find(c)
	if e != api.OK || !slices.Equal(pairs, want) || load != slices.Max(l) {
		t.Error("P26.3:", c, pairs, load, e, "want", want, l)
	}
	for _, by := range []int{2, 7} {
		more, load2, _, e := Find(scaled(c, by))
		if e != api.OK || !slices.Equal(more, pairs) || load2 != by*load {
			t.Error("P26.8:", c, by, pairs, load, more, load2, e)
		}
	}
}

// TestFirst has cases in which an assignment that is found late is as good as the best one so far, through people whose passages were placed before.
func TestFirst(t *testing.T) {
	for _, c := range []Case{{[]int{1, 6, 6}, 5, nil}, {[]int{2, 12, 12}, 5, nil}, {[]int{2, 2, 2}, 5, nil}, {[]int{1, 1, 1}, 5, nil}, {[]int{6, 1, 6}, 5, nil}, {[]int{3, 3, 1, 1}, 5, nil}, {[]int{9, 2, 2, 9}, 6, [][2]int{{0, 0}, {3, 1}}}} {
		checkFirst(t, c)
	}
	for n := range 4 * 4 * 4 {
		checkFirst(t, Case{[]int{1 + n/16, 1 + n/4%4, 1 + n%4}, 5, nil})
	}
	r := rand.New(rand.NewSource(2))
	for range 60 {
		c := random(r, 3)
		c.People = 4 + r.Intn(3)
		checkFirst(t, c)
	}
	for range 6 {
		c := random(r, 4)
		c.People = 5
		checkFirst(t, c)
	}
	// Six passages, as many as are searched: all loads are even, and five people with 4 each would have too few places.
	pairs, load, p, e := Find(Case{[]int{2, 2, 2, 2, 2, 2}, 5, nil})
	if want := [][2]int{{0, 1}, {0, 1}, {0, 1}, {2, 3}, {2, 3}, {2, 3}}; e != api.OK || !slices.Equal(pairs, want) || load != 6 || p.Least != 5 {
		t.Error("P26.3:", pairs, load, p, e)
	}
}
