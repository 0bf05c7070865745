package shell

import (
	"slices"
	"strconv"
	"strings"

	"passim/api"
	"passim/network"
)

// done is the reply to a command that changed something.
func done() []string { return []string{"ok"} }

// say lets a host say an event.
func (s *Shell) say(w *words, host int, e api.Event) []string {
	w.end()
	must(s.network.Do(network.Act{Kind: network.Say, Host: host, Event: e}))
	made := s.network.Made()
	last := made[len(made)-1]
	return []string{"ok " + strconv.Itoa(last.By) + "." + strconv.Itoa(last.Seq)}
}

// edit lets a host say an operation.
func (s *Shell) edit(w *words, host int, o api.Op) []string {
	return s.say(w, host, api.Event{Kind: api.EvEdit, Op: o})
}

func (s *Shell) volume(w *words) []string {
	return s.edit(w, w.number(), api.Op{Kind: api.OpVolume})
}

func (s *Shell) article(w *words) []string {
	h := w.number()
	o := api.Op{Kind: api.OpArticle, Spot: api.Spot{Volume: w.number()}}
	o.Text = w.text()
	return s.edit(w, h, o)
}

// spot reads a spot.
func (w *words) spot() api.Spot {
	v := w.number()
	a := w.number()
	return api.Spot{Volume: v, Article: a, Index: w.number()}
}

func (s *Shell) insert(w *words) []string {
	h := w.number()
	o := api.Op{Kind: api.OpInsert, Spot: w.spot()}
	o.Form = w.form()
	o.Refs = w.ids()
	o.Text = w.text()
	return s.edit(w, h, o)
}

func (s *Shell) delete(w *words) []string {
	h := w.number()
	return s.edit(w, h, api.Op{Kind: api.OpDelete, At: w.id()})
}

func (s *Shell) merge(w *words) []string {
	h := w.number()
	return s.edit(w, h, api.Op{Kind: api.OpMerge, At: w.id()})
}

func (s *Shell) split(w *words) []string {
	h := w.number()
	o := api.Op{Kind: api.OpSplit, At: w.id()}
	o.N = w.number()
	return s.edit(w, h, o)
}

func (s *Shell) move(w *words) []string {
	h := w.number()
	o := api.Op{Kind: api.OpMove, At: w.id()}
	o.Spot = w.spot()
	return s.edit(w, h, o)
}

func (s *Shell) swap(w *words) []string {
	h := w.number()
	o := api.Op{Kind: api.OpSwap, At: w.id()}
	o.To = w.id()
	return s.edit(w, h, o)
}

func (s *Shell) rewrite(w *words) []string {
	h := w.number()
	o := api.Op{Kind: api.OpRewrite, At: w.id()}
	o.N = w.number()
	o.Pairs = w.pairs()
	o.Refs = w.ids()
	rest := w.rest()
	for {
		k := slices.Index(rest, "|")
		if k < 0 {
			o.Texts = append(o.Texts, strings.Join(rest, blank))
			return s.edit(w, h, o)
		}
		o.Texts = append(o.Texts, strings.Join(rest[:k], blank))
		rest = rest[k+1:]
	}
}

func (s *Shell) refer(w *words) []string {
	h := w.number()
	o := api.Op{Kind: api.OpRefer, At: w.id()}
	o.Refs = w.ids()
	return s.edit(w, h, o)
}

func (s *Shell) edition(w *words) []string {
	return s.say(w, w.number(), api.Event{Kind: api.EvEdition})
}

func (s *Shell) term(w *words) []string {
	h := w.number()
	t := api.Term{Kind: w.kind()}
	t.Name = w.letters()
	t.See = w.letters()
	t.Broader = w.lettersList()
	return s.say(w, h, api.Event{Kind: api.EvTerm, Term: t})
}

// judged lets a host say the postings of a passage.
func (s *Shell) judged(w *words, kind int) []string {
	h := w.number()
	at := w.id()
	return s.say(w, h, api.Event{Kind: kind, ID: at, Posts: w.posts(at)})
}

func (s *Shell) post(w *words) []string { return s.judged(w, api.EvPost) }

func (s *Shell) settle(w *words) []string { return s.judged(w, api.EvSettle) }

// order lets a host say an order about a passage.
func (s *Shell) order(w *words, kind int) []string {
	h := w.number()
	at := w.id()
	return s.say(w, h, api.Event{Kind: kind, ID: at, N: w.number()})
}

func (s *Shell) hold(w *words) []string { return s.order(w, api.EvHold) }

func (s *Shell) free(w *words) []string { return s.order(w, api.EvFree) }

// act performs an act of the network.
func (s *Shell) act(w *words, a network.Act) []string {
	w.end()
	must(s.network.Do(a))
	return done()
}

func (s *Shell) send(w *words) []string {
	return s.act(w, network.Act{Kind: network.Send, Host: w.number()})
}

func (s *Shell) deliver(w *words) []string {
	return s.act(w, network.Act{Kind: network.Deliver, N: w.number()})
}

func (s *Shell) lose(w *words) []string {
	return s.act(w, network.Act{Kind: network.Lose, N: w.number()})
}

func (s *Shell) repeat(w *words) []string {
	return s.act(w, network.Act{Kind: network.Repeat, N: w.number()})
}

func (s *Shell) forge(w *words) []string {
	a := network.Act{Kind: network.Forge, N: w.number()}
	a.Picks = []int{w.number()}
	return s.act(w, a)
}

func (s *Shell) trip(w *words) []string {
	a := network.Act{Kind: network.Trip, Host: w.number()}
	a.N = w.number()
	return s.act(w, a)
}

func (s *Shell) crash(w *words) []string {
	return s.act(w, network.Act{Kind: network.Crash, Host: w.number()})
}

func (s *Shell) calm(w *words) []string {
	w.end()
	must(s.network.Calm(calm))
	return done()
}
