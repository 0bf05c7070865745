package shell

import (
	"slices"
	"strings"
	"testing"
)

// TestFurther puts a further word behind commands that end before it.
func TestFurther(t *testing.T) {
	s := open(t, house0+"\npress 0 0 40 12")
	for _, line := range []string{"volume 0", "delete 0 0.9.9", "merge 0 0.9.9", "split 0 0.9.9 1", "move 0 0.9.9 0 0 0", "swap 0 0.9.9 0.9.9", "refer 0 0.9.9 -", "edition 0", "term 0 place zz - -", "post 0 0.9.9 -", "settle 0 0.9.9 -", "hold 0 0.9.9 1", "free 0 0.9.9 1", "send 0", "deliver 0", "lose 0", "repeat 0", "forge 0 0", "trip 0 9", "crash 0", "calm",
		"text 0", "public 0 0 0", "verdicts 0 0", "again 0 0 0", "press 0 0 40 12", "tear 0 0 1", "drop 0 0", "state 0 -", "page 0 0 0", "ask 0 0.2.0", "where 0 0 0.2.0", "breaches 0 0 0", "index 0 0 0", "release 0 0 0"} {
		if r := s.Do(line + " 1"); !slices.Equal(r, []string{"error 2"}) {
			t.Errorf("P46.2: %q: %q", line+" 1", r)
		}
		cut := line[:strings.LastIndexByte(line, ' ')+1]
		if r := s.Do(strings.TrimSuffix(cut, " ")); line != "calm" && !slices.Equal(r, []string{"error 2"}) {
			t.Errorf("P46.2: %q: %q", cut, r)
		}
	}
	if r := s.Do("text 0"); len(r) != 4 {
		t.Error("P46.2: nothing has changed:", r)
	}
	// A line has at most 4096 bytes.
	long := "article 0 0 " + strings.Repeat("x", 4084)
	if r := s.Do(long); len(long) != 4096 || !slices.Equal(r, []string{"ok 0.9"}) {
		t.Error("P46.2:", len(long), r)
	}
	if r := s.Do(long + "x"); !slices.Equal(r, []string{"error 2"}) {
		t.Error("P46.2:", r)
	}
}
