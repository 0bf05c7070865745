// Package order compares identities, names and spots, which several layers sort.
package order

import (
	"cmp"
	"slices"

	"passim/api"
)

// IDs compares two IDs by By, Seq and K.
func IDs(a, b api.ID) int {
	return cmp.Or(cmp.Compare(a.By, b.By), cmp.Compare(a.Seq, b.Seq), cmp.Compare(a.K, b.K))
}

// Names compares two names by By and Seq.
func Names(a, b api.Name) int {
	return cmp.Or(cmp.Compare(a.By, b.By), cmp.Compare(a.Seq, b.Seq))
}

// Links compares two links by From and To.
func Links(a, b api.Link) int {
	return cmp.Or(IDs(a.From, b.From), IDs(a.To, b.To))
}

// Set returns the elements of a list in order, each once.
func Set[T comparable](l []T, compare func(a, b T) int) []T {
	s := slices.Clone(l)
	slices.SortFunc(s, compare)
	return slices.Compact(s)
}
