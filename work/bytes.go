package work

import (
	"passim/api"
	"passim/parts"
	"passim/wire"
)

// Encode returns the encoding of a work.
func Encode(w api.Work) []byte {
	b := wire.Int(len(w.List))
	for _, v := range w.List {
		b = append(b, wire.Int(len(v.List))...)
		for _, a := range v.List {
			b = append(append(b, wire.Bytes(a.Title)...), wire.Int(len(a.List))...)
			for _, p := range a.List {
				b = append(b, encodePassage(p)...)
			}
		}
	}
	return b
}

// encodePassage returns the part of the encoding for a passage.
func encodePassage(p api.Passage) []byte {
	b := wire.Ints([]int{p.ID.By, p.ID.Seq, p.ID.K, p.Form, p.Lang})
	b = append(b, wire.Bytes(p.Text)...)
	var refs []int
	for _, r := range p.Refs {
		refs = append(refs, r.By, r.Seq, r.K)
	}
	return append(b, wire.Ints(refs)...)
}

// reader reads the parts of an encoding.
type reader struct{ *parts.Reader }

// each reads a number, and then as many elements.
func (r reader) each(element func()) {
	n := parts.Next(r.Reader, wire.GetInt, func(n int) bool { return n >= 0 })
	for range n {
		if _, e := r.Used(); e != api.OK {
			return
		}
		element()
	}
}

// text reads a byte string.
func (r reader) text() string { return parts.Next(r.Reader, wire.GetBytes, parts.Any) }

// passage reads a passage.
func (r reader) passage() api.Passage {
	n := parts.Next(r.Reader, wire.GetInts, func(l []int) bool { return len(l) == 5 })
	text := r.text()
	refs := parts.Next(r.Reader, wire.GetInts, func(l []int) bool { return len(l)%3 == 0 })
	if _, e := r.Used(); e != api.OK {
		return api.Passage{}
	}
	p := api.Passage{ID: api.ID{By: n[0], Seq: n[1], K: n[2]}, Form: n[3], Lang: n[4], Text: text}
	for i := 0; i < len(refs); i += 3 {
		p.Refs = append(p.Refs, api.ID{By: refs[i], Seq: refs[i+1], K: refs[i+2]})
	}
	return p
}

// Decode returns the work with whose encoding b begins, and the length of the encoding.
func Decode(b []byte) (api.Work, int, api.Errno) {
	var w api.Work
	r := reader{parts.Of(b)}
	r.each(func() {
		var v api.Volume
		r.each(func() {
			a := api.Article{Title: r.text()}
			r.each(func() { a.List = append(a.List, r.passage()) })
			v.List = append(v.List, a)
		})
		w.List = append(w.List, v)
	})
	used, e := r.Used()
	if e != api.OK {
		return api.Work{}, 0, e
	}
	return w, used, api.OK
}
