package shell

import (
	"strconv"
	"strings"

	"passim/api"
	"passim/checker"
	"passim/columns"
	"passim/heading"
	"passim/history"
	"passim/judge"
	"passim/policy"
	"passim/printing"
	"passim/refer"
	"passim/sign"
)

// shownDigits is how many digits of a digest are shown.
const shownDigits = 8

// setPolicy is the command policy.
func (s *Shell) setPolicy(w *words) []string {
	source := w.text()
	p, n, e := policy.Load(source)
	if e != api.OK {
		return []string{failure(e).Error() + blank + strconv.Itoa(n)}
	}
	s.source, s.policy = source, p
	return []string{"rules " + strconv.Itoa(p.Rules())}
}

// material is what the index of a state of an issue is made of.
type material struct {
	edition api.Work
	terms   []api.Term
	posts   []api.Post
	entries []heading.Entry
}

// materialOf returns what the index of a state of an issue is made of.
func materialOf(h *history.History, x printing.Issue, state int) material {
	m := material{edition: editionOf(h, x.Edition)}
	var e api.Errno
	m.terms, e = h.Terms(x.Edition)
	must(e)
	m.posts = judge.Posts(outcome(h, m.edition))
	c, e := printing.Read(x, state)
	must(e)
	m.entries, e = heading.Build(m.posts, c)
	must(e)
	return m
}

// issueOf reads a host, an issue and a state, and returns the history and the issue.
func (s *Shell) issueOf(w *words) (*history.History, printing.Issue, int) {
	host := w.number()
	i := w.number()
	state := w.number()
	w.end()
	h := s.history(host)
	return h, s.issue(i), state
}

func (s *Shell) breaches(w *words) []string {
	m := materialOf(s.issueOf(w))
	found, e := s.policy.Breaches(m.edition, m.terms, m.posts, heading.Heads(m.entries))
	must(e)
	var l []string
	for _, b := range found {
		d := b.Demand
		text := strconv.Itoa(d.Rule) + blank
		if d.Deed == "" {
			text += "heading " + showPath(api.Post{Path: b.Path})
		} else {
			text += d.Deed + blank + showID(d.ID) + blank + showLetters(d.Term)
		}
		l = append(l, text)
	}
	if len(l) == 0 {
		return []string{none}
	}
	return l
}

func (s *Shell) index(w *words) []string {
	m := materialOf(s.issueOf(w))
	var heads []string
	for _, e := range m.entries {
		if len(e.Path) == 1 {
			heads = append(heads, e.Path[0])
		}
	}
	pages, e := columns.Lay(house(), m.entries, refer.Of(m.terms, heads))
	must(e)
	var l []string
	for _, text := range columns.Print(pages) {
		l = append(l, strings.Split(strings.TrimSuffix(text, lineEnd), lineEnd)...)
	}
	return l
}

func (s *Shell) release(w *words) []string {
	h, x, state := s.issueOf(w)
	posts := judge.Posts(outcome(h, editionOf(h, x.Edition)))
	seed := strings.Repeat("s", api.KeySize)
	public, e := sign.Public(seed, 0)
	must(e)
	rules := checker.Rules{Policy: s.source, Style: house(), Public: public}
	made, e := checker.Make(h, rules, x, state, posts, seed, 0)
	must(e)
	d := checker.Digest(made)
	return []string{"release " + hexadecimal(d[:])[:shownDigits]}
}

// hexadecimal prints bytes.
func hexadecimal(b []byte) string {
	const digits = "0123456789abcdef"
	var text strings.Builder
	for _, c := range b {
		text.WriteByte(digits[c>>4])
		text.WriteByte(digits[c&15])
	}
	return text.String()
}
