package network

import (
	"slices"
	"testing"
)

func TestForge(t *testing.T) {
	for _, picks := range [][]int{nil, {0}, {5}, {-1}, {1000000}} {
		n := network(t, 2)
		n.Do(Act{Kind: Say, Event: edition})
		n.Do(Act{Kind: Send})
		want := slices.Clone(n.way[0].packet.Bytes)
		at := 0
		if len(picks) > 0 {
			at = (picks[0]%len(want) + len(want)) % len(want)
		}
		want[at]++
		n.Do(Act{Kind: Forge, Picks: picks})
		if !slices.Equal(n.way[0].packet.Bytes, want) || !n.way[0].changed {
			t.Error("P44.2:", picks)
		}
	}
}
