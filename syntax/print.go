package syntax

import (
	"slices"
	"strconv"
	"strings"

	"passim/api"
)

// levelOf returns the level of a node, and the sign of its operation, if it is one with two operands.
func levelOf(n api.Node) (int, string) {
	for _, o := range operations {
		if o.kind == n.Kind {
			return o.level, o.text
		}
	}
	switch n.Kind {
	case Not, Some, Every:
		return baseLevel, ""
	}
	return factorLevel, ""
}

// tokens returns the tokens of a test or of a value, in brackets if its level is less than needed.
func tokens(n api.Node, needed int) []string {
	level, operation := levelOf(n)
	var l []string
	switch {
	case operation != "":
		l = slices.Concat(tokens(n.Kids[0], level), []string{operation}, tokens(n.Kids[1], level+1))
	case n.Kind == Not:
		l = append([]string{"not"}, tokens(n.Kids[0], baseLevel)...)
	case n.Kind == Some:
		l = slices.Concat([]string{"some", "sentence", "["}, tokens(n.Kids[0], orLevel), []string{"]"})
	case n.Kind == Every:
		l = slices.Concat([]string{"every", "sentence", "["}, tokens(n.Kids[0], orLevel), []string{"]"})
	case n.Kind == Num:
		l = []string{strconv.Itoa(n.N)}
	default:
		l = []string{n.Text}
	}
	switch {
	case level >= needed:
		return l
	case level <= baseLevel:
		return slices.Concat([]string{"["}, l, []string{"]"})
	}
	return slices.Concat([]string{"("}, l, []string{")"})
}

// item returns the tokens of an item.
func item(n api.Node) []string {
	var l []string
	test := 1
	switch n.Kind {
	case Let:
		return append([]string{"let", n.Text, "="}, tokens(n.Kids[0], sumLevel)...)
	case Heading:
		l, test = []string{"rule", n.Text, "no", "heading"}, 0
	case Mention:
		l = []string{"rule", n.Text, "each", termWords()[n.N], "demand", n.Kids[0].Text}
	case Entry:
		l = []string{"rule", n.Text, "entry", termWords()[n.N], "demand", n.Kids[0].Text}
	}
	if test < len(n.Kids) {
		l = append(append(l, "if"), tokens(n.Kids[test], orLevel)...)
	}
	return l
}

// text returns the text of a tree whose nodes are in order.
func text(n api.Node) string {
	var b strings.Builder
	for _, kid := range n.Kids {
		last := "("
		for _, t := range item(kid) {
			if last != "(" && last != "[" && t != ")" && t != "]" {
				b.WriteByte(' ')
			}
			b.WriteString(t)
			last = t
		}
		b.WriteByte('\n')
	}
	return b.String()
}

// grammar checks the nodes of a tree, and counts them.
type grammar struct{ nodes int }

// kids reports whether a node has neither too many nodes nor levels above it, no other Text and N than given, and as many kids, all of which fit.
func (g *grammar) kids(n api.Node, depth int, text string, number, count int, fits func(api.Node, int) bool) bool {
	g.nodes++
	if depth > mostDepth || g.nodes > api.MaxSource || n.Text != text || n.N != number || len(n.Kids) != count {
		return false
	}
	return !slices.ContainsFunc(n.Kids, func(k api.Node) bool { return !fits(k, depth+1) })
}

// value reports whether a node is that of a VALUE.
func (g *grammar) value(n api.Node, depth int) bool {
	switch n.Kind {
	case Add, Sub, Mul:
		return g.kids(n, depth, "", 0, 2, g.value)
	case Num:
		return n.N >= 0 && n.N <= mostNumeral && g.kids(n, depth, "", n.N, 0, g.value)
	case Name:
		return name(n.Text) && g.kids(n, depth, n.Text, 0, 0, g.value)
	case Field:
		return slices.Contains(fieldWords(), n.Text) && g.kids(n, depth, n.Text, 0, 0, g.value)
	}
	return false
}

// test reports whether a node is that of a TEST.
func (g *grammar) test(n api.Node, depth int) bool {
	switch n.Kind {
	case Or, And:
		return g.kids(n, depth, "", 0, 2, g.test)
	case Not, Some, Every:
		return g.kids(n, depth, "", 0, 1, g.test)
	case Less, Most, Equal:
		return g.kids(n, depth, "", 0, 2, g.value)
	}
	return false
}

// deed reports whether a node is a Deed with one of some words.
func (g *grammar) deed(n api.Node, depth int, words []string) bool {
	return n.Kind == Deed && slices.Contains(words, n.Text) && g.kids(n, depth, n.Text, 0, 0, g.test)
}

// item reports whether a node is that of an ITEM.
func (g *grammar) item(n api.Node, depth int) bool {
	if !name(n.Text) {
		return false
	}
	deeds := mentionDeeds()
	switch n.Kind {
	case Let:
		return g.kids(n, depth, n.Text, 0, 1, g.value)
	case Heading:
		return g.kids(n, depth, n.Text, 0, 1, g.test)
	case Entry:
		deeds = entryDeeds()
	case Mention:
	default:
		return false
	}
	if n.N < 0 || n.N >= len(termWords()) || len(n.Kids) < 1 || len(n.Kids) > 2 || !g.deed(n.Kids[0], depth+1, deeds) {
		return false
	}
	rest := n
	rest.Kids = n.Kids[1:]
	return g.kids(rest, depth, n.Text, n.N, len(rest.Kids), g.test)
}

// Valid reports whether n is a tree that Parse returns for some source.
func Valid(n api.Node) bool {
	g := &grammar{}
	return n.Kind == Policy && g.kids(n, 1, "", 0, len(n.Kids), g.item) && len(text(n)) <= api.MaxSource
}

// Print returns the text of a valid tree.
func Print(n api.Node) string {
	if !Valid(n) {
		return ""
	}
	return text(n)
}
