package syntax

import (
	"slices"
	"strconv"
	"strings"

	"passim/api"
)

// Kinds of tokens.
const (
	end = iota // the end of the source
	bad        // a byte at which no token begins
	word
	numeral
	sign
)

// token is a part of a source, at the offset at.
type token struct {
	kind, at int
	text     string
}

func letter(c byte) bool { return c >= 'a' && c <= 'z' }

func decimal(c byte) bool { return c >= '0' && c <= '9' }

// scan returns the first token from an offset on.
func scan(s string, at int) token {
	t := token{kind: bad}
search:
	for ; ; at++ {
		switch {
		case at == len(s):
			t.kind = end
			break search
		case s[at] == ' ' || s[at] == '\n':
			continue
		case letter(s[at]):
			t.kind = word
		case decimal(s[at]):
			t.kind = numeral
		case strings.IndexByte("()[]=+-*<", s[at]) >= 0:
			t.kind = sign
		}
		break search
	}
	t.at = at
	to := at
	switch t.kind {
	case word:
		for to < len(s) && (letter(s[to]) || decimal(s[to])) {
			to++
		}
	case numeral:
		for to < len(s) && decimal(s[to]) {
			to++
		}
	case sign:
		to++
		if strings.HasPrefix(s[at:], "<=") {
			to++
		}
	}
	t.text = s[at:to]
	if t.kind == word && len(t.text) > api.MaxName || t.kind == numeral && len(t.text) > mostDigits {
		t.kind = bad
	}
	return t
}

// parser reads a source token by token, up to the first one that cannot stand where it does.
type parser struct {
	s      string
	t      token // the next token
	failed bool
}

// advance goes on behind the next token.
func (p *parser) advance() { p.t = scan(p.s, p.t.at+len(p.t.text)) }

// fail notes that the next token cannot stand here.
func (p *parser) fail() { p.failed = true }

// is reports whether the next token is a word or a sign.
func (p *parser) is(text string) bool {
	return !p.failed && (p.t.kind == word || p.t.kind == sign) && p.t.text == text
}

// accept goes on behind a word or a sign, if it is there.
func (p *parser) accept(text string) bool {
	ok := p.is(text)
	if ok {
		p.advance()
	}
	return ok
}

// expect goes on behind words and signs that have to be there.
func (p *parser) expect(texts ...string) {
	for _, text := range texts {
		if !p.accept(text) {
			p.fail()
		}
	}
}

// choose goes on behind one of some words, which has to be there, and returns its number.
func (p *parser) choose(words []string) int {
	i := slices.IndexFunc(words, p.is)
	if i < 0 {
		p.fail()
		return 0
	}
	p.advance()
	return i
}

// name reads a NAME.
func (p *parser) name() string {
	if p.failed || p.t.kind != word || !name(p.t.text) {
		p.fail()
		return ""
	}
	text := p.t.text
	p.advance()
	return text
}

// item reads an ITEM.
func (p *parser) item() api.Node {
	if p.accept("let") {
		n := api.Node{Kind: Let, Text: p.name()}
		p.expect("=")
		n.Kids = append(n.Kids, p.value())
		return n
	}
	p.expect("rule")
	n := api.Node{Text: p.name()}
	deeds := mentionDeeds()
	switch {
	case p.accept("no"):
		p.expect("heading", "if")
		n.Kind, n.Kids = Heading, []api.Node{p.test()}
		return n
	case p.accept("entry"):
		n.Kind, deeds = Entry, entryDeeds()
	default:
		p.expect("each")
		n.Kind = Mention
	}
	n.N = p.choose(termWords())
	p.expect("demand")
	n.Kids = append(n.Kids, api.Node{Kind: Deed, Text: deeds[p.choose(deeds)]})
	if p.accept("if") {
		n.Kids = append(n.Kids, p.test())
	}
	return n
}

// chain reads operands with operations of a level between them.
func (p *parser) chain(level int, operand func() api.Node) api.Node {
	n := operand()
more:
	for {
		for _, o := range operations {
			if o.level == level && p.accept(o.text) {
				n = api.Node{Kind: o.kind, Kids: []api.Node{n, operand()}}
				continue more
			}
		}
		return n
	}
}

func (p *parser) test() api.Node { return p.chain(orLevel, p.all) }

func (p *parser) all() api.Node { return p.chain(andLevel, p.base) }

func (p *parser) value() api.Node { return p.chain(sumLevel, p.product) }

func (p *parser) product() api.Node { return p.chain(productLevel, p.factor) }

// base reads a BASE.
func (p *parser) base() api.Node {
	kind := Every
	switch {
	case p.accept("not"):
		return api.Node{Kind: Not, Kids: []api.Node{p.base()}}
	case p.accept("["):
		n := p.test()
		p.expect("]")
		return n
	case p.accept("some"):
		kind = Some
		fallthrough
	case p.accept("every"):
		p.expect("sentence", "[")
		n := api.Node{Kind: kind, Kids: []api.Node{p.test()}}
		p.expect("]")
		return n
	}
	n := p.value()
	for _, o := range operations {
		if o.level == baseLevel && p.accept(o.text) {
			return api.Node{Kind: o.kind, Kids: []api.Node{n, p.value()}}
		}
	}
	p.fail()
	return n
}

// factor reads a FACTOR.
func (p *parser) factor() api.Node {
	switch {
	case p.failed:
		return api.Node{}
	case p.t.kind == numeral:
		value, _ := strconv.Atoi(p.t.text)
		p.advance()
		return api.Node{Kind: Num, N: value}
	case p.t.kind == word && slices.Contains(fieldWords(), p.t.text):
		text := p.t.text
		p.advance()
		return api.Node{Kind: Field, Text: text}
	case p.accept("("):
		n := p.value()
		p.expect(")")
		return n
	}
	return api.Node{Kind: Name, Text: p.name()}
}

// Parse returns the tree of a source, or the offset of an error.
func Parse(s string) (api.Node, int, api.Errno) {
	if len(s) > api.MaxSource {
		return api.Node{}, api.MaxSource, api.ErrLimit
	}
	p := &parser{s: s, t: scan(s, 0)}
	n := api.Node{Kind: Policy}
	for !p.failed && p.t.kind != end {
		n.Kids = append(n.Kids, p.item())
	}
	if p.failed {
		return api.Node{}, p.t.at, api.ErrForm
	}
	if !Valid(n) {
		return api.Node{}, 0, api.ErrLimit
	}
	return n, 0, api.OK
}
