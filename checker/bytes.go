package checker

import (
	"slices"

	"passim/api"
	"passim/columns"
	"passim/hash"
	"passim/heading"
	"passim/page"
	"passim/printing"
	"passim/wire"
)

// bit returns 1 for true.
func bit(ok bool) int {
	if ok {
		return 1
	}
	return 0
}

// encodeIssue returns the encoding of an issue.
func encodeIssue(x printing.Issue) []byte {
	b := slices.Concat(wire.Int(x.Edition), page.Encode(x.Pages), wire.Int(len(x.Changes)))
	for _, c := range x.Changes {
		b = slices.Concat(b, wire.Ints([]int{c.Kind, c.Volume, c.At}), page.Encode(c.Pages))
	}
	b = append(b, wire.Int(len(x.States))...)
	for _, s := range x.States {
		b = append(b, wire.Ints(s)...)
	}
	return b
}

// encodePages returns the encoding of the pages of an index.
func encodePages(l []columns.Page) []byte {
	b := wire.Int(len(l))
	for _, p := range l {
		b = append(b, wire.Int(len(p.Columns))...)
		for _, column := range p.Columns {
			b = append(b, wire.Int(len(column))...)
			for _, x := range column {
				b = slices.Concat(b, wire.Ints([]int{x.Level, x.Of}), wire.Bytes(x.Text))
			}
		}
	}
	return b
}

// Encode returns the encoding of a release.
func Encode(x Release) []byte {
	b := slices.Concat(wire.Ints([]int{x.Edition, x.State}), encodeIssue(x.Issue), wire.Int(len(x.Posts)))
	for _, p := range x.Posts {
		b = slices.Concat(b, wire.Ints([]int{p.ID.By, p.ID.Seq, p.ID.K, bit(p.Main)}), wire.Strings(p.Path))
	}
	b = slices.Concat(b, wire.Ints(x.Witness), heading.Encode(x.Index), wire.Int(len(x.Refs)))
	for _, r := range x.Refs {
		b = slices.Concat(b, wire.Strings([]string{r.From, r.To}), wire.Int(bit(r.Also)))
	}
	return slices.Concat(b, encodePages(x.Pages), wire.Int(x.Receipt.Edition), wire.Digests([]api.Digest{x.Receipt.Root}), wire.Bytes(x.Receipt.Signature))
}

// Digest returns the digest of the encoding of a release.
func Digest(x Release) api.Digest { return hash.Of(api.TagIndex, string(Encode(x))) }
