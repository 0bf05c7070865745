package collate

import "passim/api"

// relation says for each two numbers whether the first one is at most the second one.
type relation [mostNumbers][mostNumbers]bool

// relationOf returns the relation of a list of pairs.
func relationOf(n int, pairs [][2]int) (*relation, api.Errno) {
	if n > mostNumbers || len(pairs) > mostPairs {
		return nil, api.ErrLimit
	}
	var r relation
	for _, p := range pairs {
		if min(p[0], p[1]) < 0 || max(p[0], p[1]) >= n {
			return nil, api.ErrArg
		}
		r[p[0]][p[1]] = true
	}
	if n < 0 {
		return nil, api.ErrArg
	}
	return &r, api.OK
}

// flaw returns the first numbers that show that a relation is not total, or not transitive; nothing, if it is both.
func (r *relation) flaw(n int) []int {
	for a := range n {
		for b := a; b < n; b++ {
			if !r[a][b] && !r[b][a] {
				return []int{a, b}
			}
		}
	}
	for a := range n {
		for b := range n {
			for c := range n {
				if r[a][b] && r[b][c] && !r[a][c] {
					return []int{a, b, c}
				}
			}
		}
	}
	return nil
}

// Total returns true if a relation is total and transitive, and otherwise numbers that show that it is not.
func Total(n int, pairs [][2]int) ([]int, bool, api.Errno) {
	r, e := relationOf(n, pairs)
	if e != api.OK {
		return nil, false, e
	}
	l := r.flaw(n)
	return l, l == nil, api.OK
}

// Rank returns for each number how many are less.
func Rank(n int, pairs [][2]int) ([]int, api.Errno) {
	r, e := relationOf(n, pairs)
	if e != api.OK {
		return nil, e
	}
	if r.flaw(n) != nil {
		return nil, api.ErrRule
	}
	l := make([]int, n)
	for a := range n {
		for b := range n {
			if r[b][a] && !r[a][b] {
				l[a]++
			}
		}
	}
	return l, api.OK
}
