package shell

import (
	"strconv"

	"passim/api"
	"passim/history"
	"passim/judge"
	"passim/redo"
	"passim/withhold"
)

// The pair of people who judge each passage.
const (
	firstIndexer  = 1
	secondIndexer = 2
)

// history returns the history of a host.
func (s *Shell) history(host int) *history.History {
	h, e := s.network.History(host)
	must(e)
	return h
}

// showWork prints a work.
func showWork(w api.Work) []string {
	var l []string
	for i, v := range w.List {
		l = append(l, "volume "+strconv.Itoa(i))
		for _, a := range v.List {
			l = append(l, "article "+a.Title)
			for _, p := range a.List {
				l = append(l, showID(p.ID)+blank+forms()[p.Form]+blank+p.Text)
			}
		}
	}
	return l
}

func (s *Shell) text(w *words) []string {
	h := w.number()
	w.end()
	return showWork(s.history(h).Work())
}

func (s *Shell) public(w *words) []string {
	h := w.number()
	k := w.number()
	day := w.number()
	w.end()
	public, _, e := withhold.Public(s.history(h), k, day)
	must(e)
	return showWork(public)
}

// ids returns the IDs of the passages of a work.
func ids(w api.Work) []api.ID {
	var l []api.ID
	for _, v := range w.List {
		for _, a := range v.List {
			for _, p := range a.List {
				l = append(l, p.ID)
			}
		}
	}
	return l
}

// outcome returns the verdicts about the passages of an edition.
func outcome(h *history.History, edition api.Work) []judge.Verdict {
	l := ids(edition)
	pairs := make([][2]int, len(l))
	for i := range pairs {
		pairs[i] = [2]int{firstIndexer, secondIndexer}
	}
	v, e := judge.Outcome(h.Events(), l, pairs)
	must(e)
	return v
}

// editionOf returns an edition of a history.
func editionOf(h *history.History, k int) api.Work {
	w, e := h.Edition(k)
	must(e)
	return w
}

func (s *Shell) verdicts(w *words) []string {
	host := w.number()
	k := w.number()
	w.end()
	h := s.history(host)
	states := [judge.States]string{judge.Open: "open", judge.Agreed: "agreed", judge.Clash: "clash", judge.Settled: "settled"}
	var l []string
	for _, v := range outcome(h, editionOf(h, k)) {
		l = append(l, showID(v.ID)+blank+states[v.State]+blank+show(v.Posts, showPath))
	}
	return l
}

func (s *Shell) again(w *words) []string {
	host := w.number()
	j := w.number()
	k := w.number()
	w.end()
	h := s.history(host)
	// Without one of both editions redo.Find has an error, too.
	before, _ := h.Edition(j)
	items, kept, e := redo.Find(h, j, k, ids(before))
	must(e)
	why := map[api.ID]string{}
	for _, x := range items {
		why[x.ID] = [redo.Whys]string{redo.New: "new", redo.Text: "text", redo.Terms: "terms " + showLetters(x.Term)}[x.Why]
	}
	for _, x := range kept {
		why[x.ID] = "kept " + showID(x.From)
	}
	var l []string
	for _, at := range ids(editionOf(h, k)) {
		l = append(l, showID(at)+blank+why[at])
	}
	return l
}
