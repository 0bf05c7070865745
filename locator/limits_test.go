package locator

import (
	"strings"
	"testing"

	"passim/api"
)

func TestLimits(t *testing.T) {
	l := Locator{Mark: "e0"}
	page := 100
	for len(l.List) < 99 {
		l.List, page = append(l.List, passages(page, 1, page, 1)), page+1
	}
	if e := Valid(l); e != api.OK {
		t.Error("P20.1:", e)
	}
	l.List = append(l.List, passages(page, 1, page, 1))
	if e := Valid(l); e != api.ErrArg {
		t.Error("P20.1:", e)
	}
	// Each passage has five bytes, and a separator of two: 5 + 35 * 7 + 6 are 256.
	l.List = l.List[:36]
	l.List[35] = passages(135, 10, 135, 10)
	text, e := Print(style, l)
	if len(text) != 259 || e != api.OK {
		t.Error("P20.2:", len(text), e)
	}
	if back, e := Parse(style, text); !Same(back, l) || e != api.OK {
		t.Error("P20.3:", e)
	}
	l.List = append(l.List[:35], passages(135, 1, 135, 2))
	if _, e := Print(style, l); e != api.ErrLimit {
		t.Error("P20.2:", e)
	}
	for _, t2 := range []string{strings.Repeat("1", 256) + ":00", "1:00"} {
		if _, e := Parse(style, t2); e != api.ErrSum && e != api.ErrForm {
			t.Error("P20.3:", e)
		}
	}
	for _, mark := range []string{"e0l", "e9", "e9al", "e10b", "e1abc"} {
		if e := Valid(Locator{mark, 7, []Range{pages(999, 999)}}); e != api.OK {
			t.Error("P20.1:", mark, e)
		}
	}
}

func TestNeighbours(t *testing.T) {
	x := example()
	x.Pages[1] = leafPage(0, 2, a, b, c)
	x.Changes, x.States = nil, [][]int{nil}
	l, e := Of(x, 0, []api.ID{c, d, b})
	want := []Range{passages(2, 2, 2, 2), pages(3, 3)}
	if len(l) != 2 || !Same(l[0], Locator{"e3", 0, want}) || e != api.OK {
		t.Error("P20.6:", l, e)
	}
	l, _ = Of(x, 0, []api.ID{a, b})
	if !Same(l[0], Locator{"e3", 0, []Range{pages(1, 1), passages(2, 2, 2, 2)}}) {
		t.Error("P20.6:", l)
	}
}
