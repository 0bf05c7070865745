package impose

import (
	"slices"
	"testing"

	"passim/api"
)

var example = []Sheet{{0, [2]int{8, 1}, [2]int{2, 7}}, {0, [2]int{6, 3}, [2]int{4, 5}}, {1, [2]int{0, 9}, [2]int{10, 0}}, {1, [2]int{}, [2]int{}}}

func TestExample(t *testing.T) {
	if l, e := Quires(10, 4); !slices.Equal(l, [][2]int{{1, 4}, {5, 8}}) || e != api.OK {
		t.Error("P14.1:", l, e)
	}
	l, e := Fold(10, 4)
	if !slices.Equal(l, example) || e != api.OK {
		t.Error("P14.1:", l, e)
	}
	if p, e := Read(l); !slices.Equal(p, []int{1, 2, 3, 4, 5, 6, 7, 8, 9, 10, 0, 0, 0, 0, 0, 0}) || e != api.OK {
		t.Error("P14.2:", p, e)
	}
	if n, front := Leaf(7); n != 4 || !front {
		t.Error("P14.4:", n, front)
	}
	for leaf, want := range map[int]int{4: 1, 6: 7, 9: 0, 0: 0, -1: 0} {
		n, e := Conjugate(10, 4, leaf)
		if n != want || (e == api.ErrRange) != (want == 0) {
			t.Error("P14.5:", leaf, n, e)
		}
	}
	if l, e := Sheets(10, 4, []int{4, 6, 1}); !slices.Equal(l, []int{0, 3}) || e != api.OK {
		t.Error("P14.6:", l, e)
	}
	if l, e := Sheets(10, 4, []int{4, 9}); len(l) != 0 || e != api.ErrRange {
		t.Error("P14.6:", l, e)
	}
	if l, e := Sheets(10, 4, nil); len(l) != 0 || e != api.OK {
		t.Error("P14.6:", l, e)
	}
}

func TestErrors(t *testing.T) {
	for i, x := range []struct {
		pages, leaves int
		e             api.Errno
	}{{-1, 4, api.ErrArg}, {1000, 3, api.ErrArg}, {5, 0, api.ErrArg}, {5, 18, api.ErrArg}, {5, -2, api.ErrArg}, {1000, 4, api.ErrLimit}, {999, 16, api.OK}, {0, 2, api.OK}} {
		_, e1 := Quires(x.pages, x.leaves)
		l, e2 := Fold(x.pages, x.leaves)
		e3 := Check(x.pages, x.leaves, l)
		_, e4 := Sheets(x.pages, x.leaves, nil)
		_, e5 := Conjugate(x.pages, x.leaves, 1)
		if e1 != x.e || e2 != x.e || e3 != x.e || e4 != x.e || e5 != x.e && (x.pages != 0 || e5 != api.ErrRange) {
			t.Error("P14.1 to P14.6:", i, e1, e2, e3, e4, e5)
		}
	}
	for i, l := range [][]Sheet{{{Quire: 1}}, {{Quire: 0}, {Quire: 2}}, {{Quire: 0}, {Quire: 1}, {Quire: 0}}, {{Quire: -1}}} {
		if p, e := Read(l); len(p) != 0 || e != api.ErrForm {
			t.Error("P14.2:", i, p, e)
		}
	}
	if p, e := Read(nil); len(p) != 0 || e != api.OK {
		t.Error("P14.2:", p, e)
	}
	for i, change := range []func(l *[]Sheet){func(l *[]Sheet) { *l = (*l)[1:] }, func(l *[]Sheet) { *l = (*l)[:3] }, func(l *[]Sheet) { *l = append(*l, Sheet{Quire: 2}) }, func(l *[]Sheet) { (*l)[0].Quire = 1 }, func(l *[]Sheet) { (*l)[0].Front[0]++ }, func(l *[]Sheet) { (*l)[3].Back[1]++ }} {
		l := slices.Clone(example)
		change(&l)
		if e := Check(10, 4, l); e != api.ErrProof {
			t.Error("P14.3:", i, e)
		}
	}
	if e := Check(10, 4, example); e != api.OK {
		t.Error("P14.3:", e)
	}
	for _, page := range []int{0, -1, 1025} {
		if n, front := Leaf(page); n != 0 || front {
			t.Error("P14.4:", page)
		}
	}
	if n, front := Leaf(1024); n != 512 || front || Pages(512) != [2]int{1023, 1024} || Pages(513) != [2]int{} || Pages(0) != [2]int{} || Pages(1) != [2]int{1, 2} {
		t.Error("P14.4")
	}
}

func TestProperties(t *testing.T) {
	for _, pages := range []int{0, 1, 2, 7, 8, 9, 33, 64, 100, 999} {
		for leaves := 2; leaves <= 16; leaves += 2 {
			l, _ := Fold(pages, leaves)
			read, e := Read(l)
			if e != api.OK || len(read)-pages >= 2*leaves {
				t.Fatal("P14.7:", pages, leaves, e)
			}
			for i, n := range read {
				if i < pages && n != i+1 || i >= pages && n != 0 {
					t.Fatal("P14.7:", pages, leaves, read)
				}
			}
			for i, s := range l {
				if s.Front[0] != 0 && s.Back[1] != 0 && (s.Front[0]-s.Back[1] != 1 || s.Front[0]+s.Front[1] != s.Back[0]+s.Back[1]) || s.Front[1] != 0 && s.Back[0] != 0 && s.Back[0]-s.Front[1] != 1 {
					t.Fatal("P14.10:", i, s)
				}
			}
			for leaf := 1; leaf <= len(read)/2; leaf++ {
				n, _ := Conjugate(pages, leaves, leaf)
				back, _ := Conjugate(pages, leaves, n)
				a, _ := Sheets(pages, leaves, []int{leaf})
				b, _ := Sheets(pages, leaves, []int{n})
				both, _ := Sheets(pages, leaves, []int{n, leaf, n})
				if back != leaf || (n+leaf)%2 != 1 || len(a) != 1 || !slices.Equal(a, b) || !slices.Equal(a, both) {
					t.Fatal("P14.8, P14.9:", pages, leaves, leaf, n)
				}
			}
		}
	}
	a, _ := Sheets(100, 8, []int{1, 12, 30})
	b, _ := Sheets(100, 8, []int{2, 12, 50})
	both, _ := Sheets(100, 8, []int{1, 12, 30, 2, 50})
	all := slices.Concat(a, b)
	slices.Sort(all)
	if !slices.Equal(slices.Compact(all), both) {
		t.Error("P14.9:", a, b, both)
	}
}
