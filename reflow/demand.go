package reflow

import (
	"math/bits"

	"passim/api"
	"passim/page"
	"passim/work"
)

// noBook stands for a style in which there is no book.
const noBook = -1

// press is the book of a style, if there is one, and the demands that hold in it, one for each bit.
type press struct {
	book  Book
	ok    bool
	holds uint
}

// presses returns what each style makes of a case, or its error.
func presses(w api.Work, styles []page.Style, l []Demand) ([]press, api.Errno) {
	if e := work.Valid(w); e != api.OK {
		return nil, e
	}
	if len(styles) > mostStyles || len(l) > mostDemands {
		return nil, api.ErrLimit
	}
	for _, d := range l {
		if d.Kind < 0 || d.Kind >= Demands {
			return nil, api.ErrArg
		}
		if _, ok := work.Find(w, d.ID); !ok && d.Kind != Pages {
			return nil, api.ErrNone
		}
	}
	var all []press
	for _, s := range styles {
		b, e := Make(w, s)
		x := press{book: b, ok: e == api.OK}
		for i, d := range l {
			if holds, e := Holds(b, d); x.ok && holds && e == api.OK {
				x.holds |= 1 << i
			}
		}
		all = append(all, x)
	}
	return all, api.OK
}

// fulfils reports whether there is a book in which some demands hold.
func (x press) fulfils(demands uint) bool { return x.ok && demands&^x.holds == 0 }

// fit returns the index of the first style that fulfils some demands, or -1.
func fit(all []press, demands uint) int {
	for i, x := range all {
		if x.fulfils(demands) {
			return i
		}
	}
	return -1
}

// every returns the set of all of n demands.
func every(n int) uint { return 1<<n - 1 }

// Fit returns the first style that fulfils all demands, and its book.
func Fit(w api.Work, styles []page.Style, l []Demand) (int, Book, api.Errno) {
	all, e := presses(w, styles, l)
	if e != api.OK {
		return 0, Book{}, e
	}
	i := fit(all, every(len(l)))
	if i < 0 {
		return 0, Book{}, api.ErrClash
	}
	return i, all[i].book, api.OK
}

// members returns the demands of a set.
func members(set uint) []int {
	var l []int
	for i := range mostDemands {
		if set>>i&1 == 1 {
			l = append(l, i)
		}
	}
	return l
}

// before reports whether the list of one set is before that of another one with as many demands.
func before(a, b uint) bool {
	// The least demand that is in just one of both sets decides.
	return a>>bits.TrailingZeros(a^b)&1 == 1
}

// Core returns the first of the shortest lists of demands that no style fulfils, and for each style one of them that does not hold.
func Core(w api.Work, styles []page.Style, l []Demand) ([]int, []int, api.Errno) {
	all, e := presses(w, styles, l)
	if e != api.OK {
		return nil, nil, e
	}
	best := every(len(l))
	if fit(all, best) >= 0 {
		return nil, nil, api.ErrDiffer
	}
	for set := range best {
		n, m := bits.OnesCount(set), bits.OnesCount(best)
		if fit(all, set) < 0 && (n < m || n == m && set != best && before(set, best)) {
			best = set
		}
	}
	var proof []int
	for _, x := range all {
		if x.ok {
			proof = append(proof, bits.TrailingZeros(best&^x.holds))
		} else {
			proof = append(proof, noBook)
		}
	}
	return members(best), proof, api.OK
}

// CheckCore returns OK if proof shows that no style fulfils the demands of core.
func CheckCore(w api.Work, styles []page.Style, l []Demand, core, proof []int) api.Errno {
	all, e := presses(w, styles, l)
	if e != api.OK {
		return e
	}
	var set uint
	for i, k := range core {
		if k < 0 || k >= len(l) || i > 0 && core[i-1] >= k {
			return api.ErrArg
		}
		set |= 1 << k
	}
	if len(proof) != len(all) {
		return api.ErrProof
	}
	for i, x := range all {
		k := proof[i]
		if !x.ok && k == noBook {
			continue
		}
		if !x.ok || k < 0 || k >= len(l) || set>>k&1 == 0 || x.holds>>k&1 == 1 {
			return api.ErrProof
		}
	}
	return api.OK
}
