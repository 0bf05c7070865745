package resolve

import (
	"passim/api"
	"passim/printing"
	"passim/work"
)

// loss is the error that says why a passage is lost.
type loss interface {
	error
	// kind returns the Kind of the reason.
	kind() int
}

// cut says that a passage was taken away before the edition of the copy.
type cut struct{ event api.Name }

// later says that a passage came after the edition of the copy.
type later struct{ event api.Name }

// withheld says that the image of a passage is held.
type withheld struct{ id api.ID }

// absent says that the image of a passage stands on missing pages.
type absent struct {
	id api.ID
	at int
}

// gone says that the image of a passage stands on no page.
type gone struct{ id api.ID }

func (cut) Error() string      { return "the passage was cut before the edition" }
func (later) Error() string    { return "the passage came after the edition" }
func (withheld) Error() string { return "the passage is withheld" }
func (absent) Error() string   { return "the passage stands on missing pages" }
func (gone) Error() string     { return "the passage stands on no page" }

func (cut) kind() int      { return Cut }
func (later) kind() int    { return Later }
func (withheld) kind() int { return Held }
func (absent) kind() int   { return Lost }
func (gone) kind() int     { return Gone }

// reason returns the reason for a passage that is lost, given the error that says why.
func reason(from api.ID, why loss) Reason {
	r := Reason{From: from, Kind: why.kind()}
	switch e := why.(type) {
	case cut:
		r.Event = e.event
	case later:
		r.Event = e.event
	case withheld:
		r.ID = e.id
	case absent:
		r.ID, r.At = e.id, e.at
	case gone:
		r.ID = e.id
	}
	return r
}

// why returns the error that says why none of the images of a passage is found.
func (r *resolver) why(id api.ID) loss {
	l := work.Order(r.after, r.images[id])
	switch {
	case len(l) == 0 && r.k >= r.i:
		return cut{r.lastCause(id)}
	case len(l) == 0:
		return later{r.firstMaker(id)}
	case r.held[l[0]]:
		return withheld{l[0]}
	}
	if at := printing.Absent(r.copy, l[0]); len(at) > 0 {
		return absent{l[0], at[0]}
	}
	return gone{l[0]}
}

// line returns a passage and all those that descend from it, or from which it descends.
func (r *resolver) line(id api.ID, up bool) []api.ID {
	next := map[api.ID][]api.ID{}
	for _, x := range r.h.Direct() {
		if up {
			x.From, x.To = x.To, x.From
		}
		next[x.From] = append(next[x.From], x.To)
	}
	var l []api.ID
	seen := map[api.ID]bool{}
	var follow func(id api.ID)
	follow = func(id api.ID) {
		if seen[id] {
			return
		}
		seen[id] = true
		l = append(l, id)
		for _, to := range next[id] {
			follow(to)
		}
	}
	follow(id)
	return l
}

// lastCause returns the last of the causes of a passage and of all that descend from it.
func (r *resolver) lastCause(id api.ID) api.Name {
	causes := map[api.Name]bool{}
	for _, x := range r.line(id, false) {
		if n, ok := r.h.Cause(x); ok {
			causes[n] = true
		}
	}
	var last api.Name
	for _, e := range r.h.Events() {
		if n := (api.Name{By: e.By, Seq: e.Seq}); causes[n] {
			last = n
		}
	}
	return last
}

// firstMaker returns the first of the events that created a passage and those from which it descends.
func (r *resolver) firstMaker(id api.ID) api.Name {
	makers := map[api.Name]bool{}
	for _, x := range r.line(id, true) {
		makers[api.Name{By: x.By, Seq: x.Seq}] = true
	}
	for _, e := range r.h.Events() {
		if n := (api.Name{By: e.By, Seq: e.Seq}); makers[n] {
			return n
		}
	}
	return api.Name{}
}
