package transducer

import (
	"iter"

	"passim/api"
)

// pair is two runs that read the same: their states, and what one of them has written more than the other one; or Apart, if neither text is the beginning of the other one.
type pair struct {
	p, q  int
	x, y  string
	apart bool
}

// write returns a pair after both runs have gone on.
func (n pair) write(p, q int, x, y string) pair {
	if n.apart {
		return pair{p: p, q: q, apart: true}
	}
	x, y = n.x+x, n.y+y
	i := 0
	for i < len(x) && i < len(y) && x[i] == y[i] {
		i++
	}
	if i < len(x) && i < len(y) {
		return pair{p: p, q: q, apart: true}
	}
	return pair{p: p, q: q, x: x[i:], y: y[i:]}
}

// square is a machine whose runs are followed in pairs.
type square struct {
	arcs  []map[string][]Arc // for each state the arcs that begin there, by what they read
	final []bool
	seen  map[[2]int][]pair
}

// squareOf returns the square of a machine.
func squareOf(m Machine) *square {
	s := &square{arcs: make([]map[string][]Arc, m.States), final: finals(m), seen: map[[2]int][]pair{}}
	for q := range s.arcs {
		s.arcs[q] = map[string][]Arc{}
	}
	for _, a := range m.Arcs {
		s.arcs[a.From][a.In] = append(s.arcs[a.From][a.In], a)
	}
	return s
}

// read yields what leads from a pair to others if both runs read a byte.
func (s *square) read(n pair, in string) iter.Seq[pair] {
	return func(yield func(pair) bool) {
		for _, a := range s.arcs[n.p][in] {
			for _, b := range s.arcs[n.q][in] {
				if !yield(n.write(a.To, b.To, a.Out, b.Out)) {
					return
				}
			}
		}
	}
}

// silent yields what leads from a pair to others if one of both runs reads nothing.
func (s *square) silent(n pair) iter.Seq[pair] {
	return func(yield func(pair) bool) {
		for _, a := range s.arcs[n.p][""] {
			if !yield(n.write(a.To, n.q, a.Out, "")) {
				return
			}
		}
		for _, b := range s.arcs[n.q][""] {
			if !yield(n.write(n.p, b.To, "", b.Out)) {
				return
			}
		}
	}
}

// fresh notes a pair and reports whether it may lead to something that those before it do not.
func (s *square) fresh(n pair) bool {
	key := [2]int{n.p, n.q}
	before := s.seen[key]
	// Whatever both runs write from here on, at most one difference vanishes: two of them are enough, and one that stays.
	if len(before) == 2 || len(before) == 1 && (before[0].apart || before[0] == n) {
		return false
	}
	s.seen[key] = append(before, n)
	return true
}

// group is the pairs of runs that read a string, and that no lesser one leads to.
type group struct {
	text  string
	pairs []pair
}

// close adds what silent arcs lead to, and reports whether two runs have different results.
func (s *square) close(g *group) bool {
	for i := 0; i < len(g.pairs); i++ {
		n := g.pairs[i]
		if s.final[n.p] && s.final[n.q] && (n.apart || n.x != n.y) {
			return true
		}
		for next := range s.silent(n) {
			if s.fresh(next) {
				g.pairs = append(g.pairs, next)
			}
		}
	}
	return false
}

// Functional returns true if a machine has at most one result for each string, and otherwise the least of the shortest strings for which it has more.
func Functional(m Machine) (string, bool, api.Errno) {
	if e := Valid(m); e != api.OK {
		return "", false, e
	}
	m = trim(m)
	if m.States > mostPairs {
		return "", false, api.ErrLimit
	}
	s := squareOf(m)
	first := group{pairs: []pair{{p: m.Start, q: m.Start}}}
	s.fresh(first.pairs[0])
	if s.close(&first) {
		return "", false, api.OK
	}
	for queue := []group{first}; len(queue) > 0; queue = queue[1:] {
		for c := range 256 {
			in := string([]byte{byte(c)})
			g := group{text: queue[0].text + in}
			for _, n := range queue[0].pairs {
				for next := range s.read(n, in) {
					if s.fresh(next) {
						g.pairs = append(g.pairs, next)
					}
				}
			}
			if s.close(&g) {
				return g.text, false, api.OK
			}
			if len(g.pairs) > 0 {
				queue = append(queue, g)
			}
		}
	}
	return "", true, api.OK
}
