package disk

import (
	"math"
	"math/rand"
	"reflect"
	"slices"
	"strings"
	"testing"

	"passim/api"
)

var a, z = strings.Repeat("a", 64), strings.Repeat("\x00", 64)

func open(t *testing.T, n int) *Disk {
	d, e := New(n)
	if e != api.OK {
		t.Fatal(e)
	}
	return d
}

func TestExample(t *testing.T) {
	d := open(t, 2)
	if e := d.Write(0, a); e != api.OK || d.Image()[0] != z || !slices.Equal(d.Pending(), []int{0}) {
		t.Error("P38.2, P38.6:", e)
	}
	if s, e := d.Read(0); s != a || e != api.OK {
		t.Error("P38.2:", e)
	}
	d.Mount([]int{3})
	if s, _ := d.Read(0); s != "aaa"+z[3:] || len(d.Pending()) > 0 {
		t.Error("P38.4:", s)
	}
	if e := max(d.Write(1, a), d.Flush(), d.Rot(1, 0)); e != api.OK {
		t.Error("P38.5:", e)
	}
	if s, _ := d.Read(1); s != "\x60"+a[1:] {
		t.Error("P38.5:", s)
	}
	d.Trip(1)
	if e := d.Write(0, a); e != api.OK {
		t.Error("P38.2:", e)
	}
	if e := d.Flush(); e != api.ErrDown || d.Up() {
		t.Error("P38.2:", e)
	}
	if s, e := d.Read(0); s != "" || e != api.ErrDown {
		t.Error("P38.2:", e)
	}
	if x, e := New(0); x != nil || e != api.ErrArg {
		t.Error("P38.1:", e)
	}
	if e := d.Rot(0, 512); e != api.ErrArg {
		t.Error("P38.5:", e)
	}
	if e := d.Write(0, "x"); e != api.ErrDown || d.Flush() != api.ErrDown {
		t.Error("P38.2:", e)
	}
}

func TestErrors(t *testing.T) {
	for n, want := range map[int]api.Errno{-1: api.ErrArg, 1: api.OK, 4096: api.OK, 4097: api.ErrArg} {
		if d, e := New(n); e != want || (d == nil) != (e != api.OK) || d != nil && (d.Len() != n || !d.Up() || d.Image()[n-1] != z || len(d.Pending())+len(d.Worn()) > 0) {
			t.Error("P38.1:", n, e)
		}
	}
	d := open(t, 2)
	d.Trip(0)
	for _, i := range []int{-1, 2, math.MaxInt} {
		_, e := d.Read(i)
		if l := []api.Errno{e, d.Write(i, a), d.Rot(i, 0), d.Wear(i)}; !slices.Equal(l, slices.Repeat([]api.Errno{api.ErrArg}, 4)) {
			t.Error("P38.2, P38.5:", i, l)
		}
	}
	if d.Write(0, a+"x") != api.ErrArg || d.Write(0, a[1:]) != api.ErrArg || d.Rot(0, -1) != api.ErrArg || !d.Up() {
		t.Error("P38.2: an ErrArg is no step")
	}
	if e := d.Write(0, a); e != api.ErrDown || d.Up() || len(d.Pending()) > 0 {
		t.Error("P38.2:", e)
	}
	if d.Rot(1, 9) != api.OK || d.Wear(1) != api.OK || d.Image()[1][1] != 2 || !slices.Equal(d.Worn(), []int{1}) {
		t.Error("P38.5, P38.6: without power")
	}
	d.Mount(nil)
	if e := d.Write(0, a); e != api.OK || !d.Up() {
		t.Error("P38.4: the trip is unlimited:", e)
	}
	d.Trip(2)
	d.Trip(-7)
	for range 5 {
		if e := d.Flush(); e != api.OK {
			t.Error("P38.3:", e)
		}
	}
	d.Trip(2)
	if e := max(d.Write(0, z), d.Flush()); e != api.OK || d.Flush() != api.ErrDown {
		t.Error("P38.3:", e)
	}
}

func TestWorn(t *testing.T) {
	d := open(t, 4)
	d.Wear(1)
	for i := range 4 {
		d.Write(i, a)
	}
	if s, _ := d.Read(1); s != a {
		t.Error("P38.2: what is pending is read")
	}
	c := d.Clone()
	d.Flush()
	if s, _ := d.Read(1); s != z || d.Image()[0] != a || len(d.Pending()) > 0 {
		t.Error("P38.2: a worn sector")
	}
	c.Mount([]int{-5, 7, 100})
	if l := c.Image(); !slices.Equal(l, []string{z, z, a, a}) || len(c.Pending()) > 0 || d.Image()[0] != a {
		t.Error("P38.4:", l)
	}
	c.Wear(3)
	c.Rot(3, 0)
	c.Trip(0)
	c.Flush()
	if !d.Up() || len(d.Worn()) != 1 || d.Image()[3] != a {
		t.Error("P38.6, P38.8: a clone")
	}
	d.Rot(1, 100)
	d.Rot(1, 100)
	if d.Image()[1] != z {
		t.Error("P38.8")
	}
}

func TestProperties(t *testing.T) {
	r := rand.New(rand.NewSource(1))
	for range 200 {
		d := open(t, 5)
		want := slices.Repeat([]string{z}, 5)
		next := map[int]string{}
		for range 60 {
			i := r.Intn(5)
			switch r.Intn(8) {
			case 0:
				d.Flush()
				for k, s := range next {
					if !slices.Contains(d.Worn(), k) {
						want[k] = s
					}
				}
				next = map[int]string{}
			case 1:
				var picks []int
				for range r.Intn(4) {
					picks = append(picks, r.Intn(70)-3)
				}
				for n, k := range d.Pending() {
					p := 64
					if n < len(picks) {
						p = min(max(picks[n], 0), 64)
					}
					if !slices.Contains(d.Worn(), k) {
						want[k] = next[k][:p] + want[k][p:]
					}
				}
				d.Mount(picks)
				next = map[int]string{}
			case 2:
				if r.Intn(9) == 0 {
					d.Wear(i)
				}
			default:
				next[i] = strings.Repeat(string([]byte{byte('a' + r.Intn(20))}), 64)
				d.Write(i, next[i])
			}
			s, ok := next[i]
			if !ok {
				s = want[i]
			}
			if got, _ := d.Read(i); got != s || !reflect.DeepEqual(d.Image(), want) {
				t.Fatal("P38.7:", i)
			}
		}
	}
}
