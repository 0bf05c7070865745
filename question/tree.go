package question

import (
	"slices"

	"passim/api"
)

// Tree is a question, with a tree for each answer (increasing); or, with Ask -1, a class.
type Tree struct {
	Ask, Class int
	Answers    []int
	Kids       []*Tree
}

// node reports whether x is a leaf or a question, whatever its kids are.
func node(x *Tree) bool {
	if x == nil {
		return false
	}
	if x.Ask == leafAsk {
		return x.Class >= 0 && x.Class < classes && len(x.Answers) == 0 && len(x.Kids) == 0
	}
	for i := 1; i < len(x.Answers); i++ {
		if x.Answers[i-1] >= x.Answers[i] {
			return false
		}
	}
	return x.Ask >= 0 && x.Ask < api.MaxAsks && x.Class == 0 && len(x.Answers) > 0 && len(x.Kids) == len(x.Answers)
}

// isTree reports whether x is a tree, and so no part of itself.
func isTree(x *Tree) bool {
	const (
		open = 1 + iota
		done
	)
	state := map[*Tree]int{}
	var visit func(x *Tree) bool
	visit = func(x *Tree) bool {
		if state[x] != 0 || !node(x) {
			return state[x] == done
		}
		state[x] = open
		for _, kid := range x.Kids {
			if !visit(kid) {
				return false
			}
		}
		state[x] = done
		return true
	}
	return visit(x)
}

// walk goes through a tree, and returns the class of the leaf and the questions on the way. The error says why it does not go on: ErrRange without an answer, ErrNone without a kid for it.
func walk(x *Tree, answers []int) (int, []int, api.Errno) {
	var asked []int
	for x.Ask != leafAsk {
		if x.Ask >= len(answers) {
			return 0, nil, api.ErrRange
		}
		k, ok := slices.BinarySearch(x.Answers, answers[x.Ask])
		if !ok {
			return 0, nil, api.ErrNone
		}
		asked = append(asked, x.Ask)
		x = x.Kids[k]
	}
	return x.Class, asked, api.OK
}

// Check returns the cost of a tree that solves a table.
func Check(t Table, x *Tree) (int, api.Errno) {
	if e := Valid(t); e != api.OK {
		return 0, e
	}
	if !isTree(x) {
		return 0, api.ErrForm
	}
	most := 0
	for i, row := range t.Answers {
		class, asked, e := walk(x, row)
		switch {
		case e != api.OK:
			return 0, api.ErrNone
		case class != t.Class[i]:
			return 0, api.ErrDiffer
		}
		cost := 0
		for _, ask := range asked {
			cost += t.Costs[ask]
		}
		most = max(most, cost)
	}
	return most, api.OK
}

// Follow goes through a tree with some answers.
func Follow(x *Tree, answers []int) (int, []int, api.Errno) {
	if !isTree(x) {
		return 0, nil, api.ErrForm
	}
	return walk(x, answers)
}

// Encode returns the code of a tree.
func Encode(x *Tree) []int {
	if !isTree(x) {
		return nil
	}
	var l []int
	var add func(x *Tree)
	add = func(x *Tree) {
		if x.Ask == leafAsk {
			l = append(l, leafAsk, x.Class)
			return
		}
		l = append(append(l, x.Ask, len(x.Answers)), x.Answers...)
		for _, kid := range x.Kids {
			add(kid)
		}
	}
	add(x)
	return l
}

// Decode returns the tree with a code.
func Decode(l []int) (*Tree, api.Errno) {
	if len(l) > api.MaxNodes {
		return nil, api.ErrLimit
	}
	rest := l
	var read func() *Tree
	read = func() *Tree {
		if len(rest) < 2 {
			return nil
		}
		x := &Tree{Ask: rest[0]}
		n := rest[1]
		rest = rest[2:]
		if x.Ask == leafAsk {
			x.Class = n
			return x
		}
		if n < 1 || n > len(rest) {
			return nil
		}
		x.Answers = slices.Clone(rest[:n])
		rest = rest[n:]
		for range n {
			kid := read()
			if kid == nil {
				return nil
			}
			x.Kids = append(x.Kids, kid)
		}
		return x
	}
	x := read()
	if len(rest) > 0 || !isTree(x) {
		return nil, api.ErrForm
	}
	return x, api.OK
}
