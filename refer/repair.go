package refer

import (
	"maps"
	"slices"

	"passim/api"
)

// alive returns the names that are alive, each with the fewest sees that lead from it to a heading.
func (w *web) alive() map[string]int {
	to := map[string][]string{}
	for _, r := range w.l {
		if !r.Also {
			to[r.To] = append(to[r.To], r.From)
		}
	}
	far := map[string]int{}
	queue := slices.Sorted(maps.Keys(w.heading))
	for _, h := range queue {
		far[h] = 0
	}
	for ; len(queue) > 0; queue = queue[1:] {
		for _, name := range to[queue[0]] {
			if _, ok := far[name]; !ok {
				far[name] = far[queue[0]] + 1
				queue = append(queue, name)
			}
		}
	}
	return far
}

// best returns the see to keep of those from a name that is no heading, or -1, if the name is dead.
func (w *web) best(name string, far map[string]int) int {
	best := -1
	for _, i := range w.sees[name] {
		n, ok := far[w.l[i].To]
		if ok && (best < 0 || n < far[w.l[best].To]) {
			best = i
		}
	}
	return best
}

// Repair returns the references to leave out, and the names that are dead.
func Repair(l []Ref, heads []string) ([]int, []string) {
	w := webOf(l, heads)
	far := w.alive()
	out := func(i int) bool {
		r := l[i]
		if r.Also {
			return w.wrong(i) != api.OK
		}
		return w.heading[r.From] || w.best(r.From, far) != i
	}
	var left []int
	for i := range l {
		if out(i) {
			left = append(left, i)
		}
	}
	var dead []string
	for _, name := range slices.Sorted(maps.Keys(w.sees)) {
		if _, ok := far[name]; !ok {
			dead = append(dead, name)
		}
	}
	return left, dead
}

// increasing reports whether left is a strictly increasing list of indexes of n references.
func increasing(left []int, n int) bool {
	for i, k := range left {
		if k < 0 || k >= n || i > 0 && left[i-1] >= k {
			return false
		}
	}
	return true
}

// Check returns OK if left can be left out, and no smaller set can.
func Check(l []Ref, heads []string, left []int, dead []string) api.Errno {
	for i, name := range dead {
		if i > 0 && dead[i-1] >= name {
			return api.ErrArg
		}
	}
	if !increasing(left, len(l)) {
		return api.ErrArg
	}
	out := set(left)
	var rest []Ref
	for i, r := range l {
		if !out[i] {
			rest = append(rest, r)
		}
	}
	if _, e := Valid(rest, heads); e != api.OK {
		return e
	}
	w := webOf(l, heads)
	if !w.proved(out, set(dead)) {
		return api.ErrProof
	}
	return api.OK
}

// proved reports whether the names that are said to be dead are, and nothing is left out that could stay.
func (w *web) proved(out map[int]bool, dead map[string]bool) bool {
	for name := range dead {
		if w.heading[name] {
			return false
		}
	}
	for name, sees := range w.sees {
		if dead[name] {
			lives := func(i int) bool {
				to := w.l[i].To
				return w.heading[to] || len(w.sees[to]) > 0 && !dead[to]
			}
			if slices.ContainsFunc(sees, lives) {
				return false
			}
		} else if !w.heading[name] && !slices.ContainsFunc(sees, func(i int) bool { return !out[i] }) {
			return false
		}
	}
	for i := range out {
		if w.l[i].Also && w.wrong(i) == api.OK {
			return false
		}
	}
	return true
}
