package edit

import (
	"slices"

	"passim/api"
	"passim/parts"
	"passim/wire"
	"passim/work"
)

// Made returns how many passages an operation creates.
func Made(o api.Op) int {
	switch o.Kind {
	case api.OpInsert, api.OpMerge:
		return 1
	case api.OpSplit:
		return 2
	case api.OpRewrite:
		return len(o.Texts)
	}
	return 0
}

// Inverse returns the operation that leads back.
func Inverse(w api.Work, o api.Op) (api.Op, bool) {
	if Check(w, o, api.Name{}) != api.OK {
		return api.Op{}, false
	}
	s, _ := work.Find(w, o.At)
	p, _ := work.At(w, s)
	switch o.Kind {
	case api.OpMove:
		return api.Op{Kind: api.OpMove, At: o.At, Spot: s}, true
	case api.OpSwap:
		return api.Op{Kind: api.OpSwap, At: o.At, To: o.To}, true
	case api.OpRefer:
		return api.Op{Kind: api.OpRefer, At: o.At, Refs: p.Refs}, true
	}
	return api.Op{}, false
}

// touched returns the articles that an operation touches, as spots with the index 0; false, if not all that it names is there.
func touched(w api.Work, o api.Op) ([]api.Spot, bool) {
	if !known(o.Kind) || o.Kind == api.OpVolume || o.Kind == api.OpArticle {
		return nil, false
	}
	var l []api.Spot
	ok := true
	add := func(s api.Spot, there bool) {
		l, ok = append(l, api.Spot{Volume: s.Volume, Article: s.Article}), ok && there
	}
	u := uses[o.Kind]
	if u&usesAt != 0 {
		add(work.Find(w, o.At))
	}
	if u&usesTo != 0 {
		add(work.Find(w, o.To))
	}
	if u&usesArticle != 0 {
		add(o.Spot, hasSpot(w, o.Spot))
	}
	return l, ok
}

// growth returns how many passages come, as far as this is positive, and no more than what is too many for each work.
func growth(o api.Op) int {
	const many = api.MaxPassages + 1
	switch o.Kind {
	case api.OpInsert, api.OpSplit:
		return 1
	case api.OpRewrite:
		if o.N < -many {
			return many
		}
		return min(max(len(o.Texts)-o.N, 0), many)
	}
	return 0
}

// Apart reports whether two operations have nothing to do with each other.
func Apart(w api.Work, o, p api.Op) bool {
	l, ok := touched(w, o)
	m, there := touched(w, p)
	if !ok || !there {
		return false
	}
	for _, s := range l {
		if slices.Contains(m, s) {
			return false
		}
	}
	return work.Size(w)[2]+growth(o)+growth(p) <= api.MaxPassages
}

// Same reports whether two operations are equal.
func Same(o, p api.Op) bool {
	return o.Kind == p.Kind && o.At == p.At && o.To == p.To && o.Spot == p.Spot && o.N == p.N && o.Form == p.Form && o.Lang == p.Lang &&
		o.Text == p.Text && slices.Equal(o.Texts, p.Texts) && slices.Equal(o.Pairs, p.Pairs) && slices.Equal(o.Refs, p.Refs)
}

// Encode returns the encoding of an operation.
func Encode(o api.Op) []byte {
	var pairs, refs []int
	for _, p := range o.Pairs {
		pairs = append(pairs, p[0], p[1])
	}
	for _, r := range o.Refs {
		refs = append(refs, r.By, r.Seq, r.K)
	}
	numbers := []int{o.Kind, o.At.By, o.At.Seq, o.At.K, o.To.By, o.To.Seq, o.To.K, o.Spot.Volume, o.Spot.Article, o.Spot.Index, o.N, o.Form, o.Lang}
	return slices.Concat(wire.Ints(numbers), wire.Bytes(o.Text), wire.Strings(o.Texts), wire.Ints(pairs), wire.Ints(refs))
}

// Decode returns the operation with whose encoding b begins, and the length of the encoding.
func Decode(b []byte) (api.Op, int, api.Errno) {
	r := parts.Of(b)
	n := parts.Next(r, wire.GetInts, func(l []int) bool { return len(l) == 13 })
	text, texts := parts.Next(r, wire.GetBytes, parts.Any), parts.Next(r, wire.GetStrings, parts.Any)
	pairs := parts.Next(r, wire.GetInts, func(l []int) bool { return len(l)%2 == 0 })
	refs := parts.Next(r, wire.GetInts, func(l []int) bool { return len(l)%3 == 0 })
	used, e := r.Used()
	if e != api.OK {
		return api.Op{}, 0, e
	}
	o := api.Op{Kind: n[0], At: api.ID{By: n[1], Seq: n[2], K: n[3]}, To: api.ID{By: n[4], Seq: n[5], K: n[6]},
		Spot: api.Spot{Volume: n[7], Article: n[8], Index: n[9]}, N: n[10], Form: n[11], Lang: n[12], Text: text, Texts: texts}
	for i := 0; i < len(pairs); i += 2 {
		o.Pairs = append(o.Pairs, [2]int{pairs[i], pairs[i+1]})
	}
	for i := 0; i < len(refs); i += 3 {
		o.Refs = append(o.Refs, api.ID{By: refs[i], Seq: refs[i+1], K: refs[i+2]})
	}
	return o, used, api.OK
}
