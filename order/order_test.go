package order

import (
	"slices"
	"testing"

	"passim/api"
)

func TestOrder(t *testing.T) {
	ids := []api.ID{{By: 1}, {By: 0, Seq: 2}, {By: 0, Seq: 1, K: 5}, {By: 1}, {By: -1}}
	want := []api.ID{{By: -1}, {By: 0, Seq: 1, K: 5}, {By: 0, Seq: 2}, {By: 1}}
	if l := Set(ids, IDs); !slices.Equal(l, want) || ids[0].By != 1 {
		t.Error(l)
	}
	names := []api.Name{{By: 1, Seq: 0}, {By: 0, Seq: 9}, {By: 0, Seq: 1}}
	if l := Set(names, Names); !slices.Equal(l, []api.Name{{By: 0, Seq: 1}, {By: 0, Seq: 9}, {By: 1, Seq: 0}}) {
		t.Error(l)
	}
	links := []api.Link{{From: want[1], To: want[2]}, {From: want[1], To: want[1]}, {From: want[0], To: want[3]}}
	if l := Set(links, Links); !slices.Equal(l, []api.Link{links[2], links[1], links[0]}) {
		t.Error(l)
	}
}
