package resolve

import (
	"errors"
	"testing"

	"passim/api"
)

// TestLosses has an error for each kind of reasons; the fields that the table of the chapter does not name are zero.
func TestLosses(t *testing.T) {
	from, image, event := id(0, 2, 0), id(0, 4, 1), api.Name{By: 1, Seq: 5}
	losses := []loss{cut{event}, later{event}, withheld{image}, absent{image, 7}, gone{image}}
	want := []Reason{{From: from, Kind: Cut, Event: event}, {From: from, Kind: Later, Event: event}, {From: from, Kind: Held, ID: image}, {From: from, Kind: Lost, ID: image, At: 7}, {From: from, Kind: Gone, ID: image}}
	texts := map[string]bool{}
	for i, x := range losses {
		if r := reason(from, x); r != want[i] {
			t.Error("P21.2:", i, r, want[i])
		}
		var as loss
		if !errors.As(error(x), &as) || as.kind() != want[i].Kind {
			t.Error("P21.2:", i, x)
		}
		texts[x.Error()] = true
	}
	if len(texts) != Reasons {
		t.Error("P21.2: a text for each kind of reasons:", texts)
	}
}
