package event

import (
	"errors"

	"passim/api"
	"passim/edit"
	"passim/wire"
)

// errBytes is what a reader panics with.
var errBytes = errors.New("these are not the bytes of an event")

// Encode returns the bytes of an event.
func Encode(e api.Event) []byte {
	b := wire.Ints([]int{e.By, e.Seq, e.Tick, e.Kind})
	var refs []int
	for _, n := range e.Refs {
		refs = append(refs, n.By, n.Seq)
	}
	b = append(b, wire.Ints(refs)...)
	switch e.Kind {
	case api.EvEdit:
		b = append(b, edit.Encode(e.Op)...)
	case api.EvTerm:
		b = append(b, wire.Ints([]int{e.Term.Kind, e.Term.Lang})...)
		b = append(b, wire.Strings(append([]string{e.Term.Name, e.Term.See}, e.Term.Broader...))...)
	case api.EvPost, api.EvSettle:
		b = append(b, wire.Ints([]int{e.ID.By, e.ID.Seq, e.ID.K})...)
		b = append(b, wire.Int(len(e.Posts))...)
		for _, p := range e.Posts {
			main := 0
			if p.Main {
				main = 1
			}
			b = append(append(b, wire.Int(main)...), wire.Strings(p.Path)...)
		}
	case api.EvHold, api.EvFree:
		b = append(b, wire.Ints([]int{e.ID.By, e.ID.Seq, e.ID.K, e.N})...)
	}
	return b
}

// reader reads the bytes of an event, and panics if they are not as they have to be.
type reader struct {
	b    []byte
	used int
}

// need panics unless what was read is as it has to be.
func need(ok bool) {
	if !ok {
		panic(errBytes)
	}
}

// read reads a part.
func read[T any](r *reader, get func([]byte) (T, int, api.Errno)) T {
	x, n, e := get(r.b[r.used:])
	need(e == api.OK)
	r.used += n
	return x
}

// numbers reads n numbers.
func (r *reader) numbers(n int) []int {
	l := read(r, wire.GetInts)
	need(len(l) == n)
	return l
}

// posts reads the postings of a passage.
func (r *reader) posts(id api.ID) []api.Post {
	n := read(r, wire.GetInt)
	need(n >= 0 && n <= mostPosts)
	var l []api.Post
	for range n {
		main := read(r, wire.GetInt)
		need(main == 0 || main == 1)
		l = append(l, api.Post{ID: id, Main: main == 1, Path: read(r, wire.GetStrings)})
	}
	return l
}

// event reads an event.
func (r *reader) event() api.Event {
	n := r.numbers(4)
	e := api.Event{By: n[0], Seq: n[1], Tick: n[2], Kind: n[3]}
	refs := read(r, wire.GetInts)
	need(len(refs)%2 == 0)
	for i := 0; i < len(refs); i += 2 {
		e.Refs = append(e.Refs, api.Name{By: refs[i], Seq: refs[i+1]})
	}
	switch e.Kind {
	case api.EvEdit:
		e.Op = read(r, edit.Decode)
	case api.EvTerm:
		n := r.numbers(2)
		l := read(r, wire.GetStrings)
		need(len(l) >= 2)
		e.Term = api.Term{Name: l[0], See: l[1], Kind: n[0], Lang: n[1], Broader: l[2:]}
	case api.EvPost, api.EvSettle:
		n := r.numbers(3)
		e.ID = api.ID{By: n[0], Seq: n[1], K: n[2]}
		e.Posts = r.posts(e.ID)
	case api.EvHold, api.EvFree:
		n := r.numbers(4)
		e.ID, e.N = api.ID{By: n[0], Seq: n[1], K: n[2]}, n[3]
	}
	need(Valid(e) == api.OK)
	return e
}

// Decode returns the valid event whose bytes b begins with, and their number.
func Decode(b []byte) (e api.Event, used int, err api.Errno) {
	defer func() {
		if recover() != nil {
			e, used, err = api.Event{}, 0, api.ErrForm
		}
	}()
	r := &reader{b: b}
	e = r.event()
	return e, r.used, api.OK
}
