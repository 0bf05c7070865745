package transducer

import (
	"slices"

	"passim/api"
)

// reached returns the states to which arcs lead from some states.
func reached(m Machine, from []int, back bool) []bool {
	next := make([][]int, m.States)
	for _, a := range m.Arcs {
		if back {
			a.From, a.To = a.To, a.From
		}
		next[a.From] = append(next[a.From], a.To)
	}
	seen := make([]bool, m.States)
	var visit func(q int)
	visit = func(q int) {
		if seen[q] {
			return
		}
		seen[q] = true
		for _, r := range next[q] {
			visit(r)
		}
	}
	for _, q := range from {
		visit(q)
	}
	return seen
}

// trim returns the machine with the useful states and arcs of a valid one.
func trim(m Machine) Machine {
	there, back := reached(m, []int{m.Start}, false), reached(m, m.Final, true)
	if !back[m.Start] {
		return Machine{States: 1}
	}
	number, t := make([]int, m.States), Machine{}
	useful := func(q int) bool { return there[q] && back[q] }
	for q := range m.States {
		if useful(q) {
			number[q] = t.States
			t.States++
		}
	}
	t.Start = number[m.Start]
	for _, q := range m.Final {
		if useful(q) {
			t.Final = append(t.Final, number[q])
		}
	}
	for _, a := range m.Arcs {
		if useful(a.From) && useful(a.To) {
			t.Arcs = append(t.Arcs, Arc{number[a.From], number[a.To], a.In, a.Out})
		}
	}
	return t
}

// Trim returns the machine with the useful states alone.
func Trim(m Machine) (Machine, api.Errno) {
	if e := Valid(m); e != api.OK {
		return Machine{}, e
	}
	return trim(m), api.OK
}

// spread returns the machine each of whose arcs writes at most one byte.
func spread(m Machine) Machine {
	s := Machine{States: m.States, Start: m.Start, Final: slices.Clone(m.Final)}
	for _, a := range m.Arcs {
		for len(a.Out) > 1 {
			s.Arcs = append(s.Arcs, Arc{a.From, s.States, a.In, a.Out[:1]})
			a.From, a.In, a.Out = s.States, "", a.Out[1:]
			s.States++
		}
		s.Arcs = append(s.Arcs, a)
	}
	return s
}

// Inverse returns the machine that reads what m writes.
func Inverse(m Machine) (Machine, api.Errno) {
	if e := Valid(m); e != api.OK {
		return Machine{}, e
	}
	s := spread(m)
	for i, a := range s.Arcs {
		s.Arcs[i].In, s.Arcs[i].Out = a.Out, a.In
	}
	if e := Valid(s); e != api.OK {
		return Machine{}, e
	}
	return s, api.OK
}

// both returns the first error of Valid for two machines.
func both(a, b Machine) api.Errno {
	if e := Valid(a); e != api.OK {
		return e
	}
	return Valid(b)
}

// Union returns the machine with the results of both machines.
func Union(a, b Machine) (Machine, api.Errno) {
	if e := both(a, b); e != api.OK {
		return Machine{}, e
	}
	if large(1+a.States+b.States, 2+len(a.Arcs)+len(b.Arcs)) {
		return Machine{}, api.ErrLimit
	}
	first, second := 1, 1+a.States
	u := Machine{States: second + b.States, Arcs: []Arc{{0, first + a.Start, "", ""}, {0, second + b.Start, "", ""}}}
	add := func(m Machine, by int) {
		for _, q := range m.Final {
			u.Final = append(u.Final, q+by)
		}
		for _, x := range m.Arcs {
			u.Arcs = append(u.Arcs, Arc{x.From + by, x.To + by, x.In, x.Out})
		}
	}
	add(a, first)
	add(b, second)
	return u, api.OK
}

// Compose returns the machine that applies b to the results of a.
func Compose(a, b Machine) (Machine, api.Errno) {
	if e := both(a, b); e != api.OK {
		return Machine{}, e
	}
	c, readers := spread(a), map[string][]Arc{}
	for _, y := range b.Arcs {
		readers[y.In] = append(readers[y.In], y)
	}
	arcs := c.States * len(readers[""])
	for _, x := range c.Arcs {
		if x.Out == "" {
			arcs += b.States
		} else {
			arcs += len(readers[x.Out])
		}
	}
	if large(c.States*b.States, arcs) {
		return Machine{}, api.ErrLimit
	}
	return trim(product(c, b, readers)), api.OK
}

// product returns the product of a machine that writes at most one byte at a time and b, whose arcs readers has by what they read.
func product(c, b Machine, readers map[string][]Arc) Machine {
	pair := func(p, q int) int { return p*b.States + q }
	m := Machine{States: c.States * b.States, Start: pair(c.Start, b.Start)}
	for _, p := range c.Final {
		for _, q := range b.Final {
			m.Final = append(m.Final, pair(p, q))
		}
	}
	for _, x := range c.Arcs {
		if x.Out == "" {
			for q := range b.States {
				m.Arcs = append(m.Arcs, Arc{pair(x.From, q), pair(x.To, q), x.In, ""})
			}
			continue
		}
		for _, y := range readers[x.Out] {
			m.Arcs = append(m.Arcs, Arc{pair(x.From, y.From), pair(x.To, y.To), x.In, y.Out})
		}
	}
	for p := range c.States {
		for _, y := range readers[""] {
			m.Arcs = append(m.Arcs, Arc{pair(p, y.From), pair(p, y.To), "", y.Out})
		}
	}
	return m
}
