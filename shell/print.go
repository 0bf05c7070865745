package shell

import (
	"slices"
	"strconv"

	"passim/api"
	"passim/identify"
	"passim/locator"
	"passim/page"
	"passim/printing"
	"passim/question"
	"passim/resolve"
)

// issue returns an issue.
func (s *Shell) issue(i int) printing.Issue {
	if i >= len(s.issues) {
		must(api.ErrNone)
	}
	return s.issues[i]
}

func (s *Shell) press(w *words) []string {
	host := w.number()
	k := w.number()
	style := page.Style{Width: w.number()}
	style.Height = w.number()
	w.end()
	pages, e := page.Lay(editionOf(s.history(host), k), style, nil)
	must(e)
	s.issues = append(s.issues, printing.Issue{Edition: k, Pages: pages, States: [][]int{nil}})
	return []string{"issue " + strconv.Itoa(len(s.issues)-1)}
}

// change gives an issue a further change.
func (s *Shell) change(i int, c printing.Change) []string {
	x := s.issue(i)
	x.Changes = append(slices.Clone(x.Changes), c)
	must(printing.Valid(x))
	s.issues[i] = x
	return []string{"change " + strconv.Itoa(len(x.Changes)-1)}
}

func (s *Shell) tear(w *words) []string {
	i := w.number()
	c := printing.Change{Kind: printing.Lose, Volume: w.number()}
	c.At = w.number()
	w.end()
	return s.change(i, c)
}

func (s *Shell) drop(w *words) []string {
	i := w.number()
	c := printing.Change{Kind: printing.Missing, Volume: w.number()}
	w.end()
	return s.change(i, c)
}

func (s *Shell) paste(w *words) []string {
	i := w.number()
	c := printing.Change{Kind: printing.Slip, Volume: w.number()}
	c.At = w.number()
	line := page.Line{ID: w.id()}
	line.Text = w.text()
	c.Pages = []page.Page{{Volume: c.Volume, Number: c.At, Lines: []page.Line{line}}}
	return s.change(i, c)
}

func (s *Shell) state(w *words) []string {
	i := w.number()
	changes := w.numbers()
	w.end()
	x := s.issue(i)
	x.States = append(slices.Clone(x.States), changes)
	must(printing.Valid(x))
	s.issues[i] = x
	code, e := printing.Code(x, len(x.States)-1)
	must(e)
	return []string{code}
}

func (s *Shell) page(w *words) []string {
	i := w.number()
	state := w.number()
	at := w.number()
	w.end()
	c, e := printing.Read(s.issue(i), state)
	must(e)
	if at >= len(c.Pages) {
		must(api.ErrNone)
	}
	if slices.Contains(c.Missing, at) {
		return []string{"missing"}
	}
	var l []string
	for _, x := range c.Pages[at].Lines {
		l = append(l, x.Text)
	}
	for _, x := range c.Pages[at].Notes {
		l = append(l, "| "+x.Text)
	}
	for _, x := range c.Slips[at] {
		l = append(l, "+ "+x.Text)
	}
	return l
}

func (s *Shell) ask(w *words) []string {
	i := w.number()
	at := w.id()
	w.end()
	x := s.issue(i)
	class, e := identify.Alike(x, []api.ID{at})
	must(e)
	_, tree, cost, e := identify.Plan(x, class)
	must(e)
	return []string{"cost " + strconv.Itoa(cost) + blank + show(question.Encode(tree), strconv.Itoa)}
}

func (s *Shell) where(w *words) []string {
	i := w.number()
	state := w.number()
	named := w.ids()
	w.end()
	found, e := locator.Of(s.issue(i), state, named)
	must(e)
	var l []string
	for _, x := range found {
		text, e := locator.Print(house().Spans, x)
		must(e)
		l = append(l, text)
	}
	if len(l) == 0 {
		return []string{none}
	}
	return l
}

func (s *Shell) resolve(w *words) []string {
	host := w.number()
	i := w.number()
	from := w.number()
	j := w.number()
	to := w.number()
	text := w.text()
	h := s.history(host)
	x, y := s.issue(i), s.issue(j)
	at, e := locator.Parse(house().Spans, text)
	must(e)
	a, e := resolve.Resolve(h, x, from, y, to, at, nil)
	must(e)
	var l []string
	for _, f := range a.Found {
		l = append(l, "found "+showID(f.ID)+" from "+show(f.From, showID)+" on "+show(f.Pages, strconv.Itoa))
	}
	kinds := [resolve.Reasons]string{resolve.Cut: "cut", resolve.Later: "later", resolve.Held: "held", resolve.Lost: "lost", resolve.Gone: "gone"}
	for _, r := range a.Reasons {
		l = append(l, "lost "+showID(r.From)+blank+kinds[r.Kind])
	}
	return l
}
