package journal

import (
	"math/rand"
	"slices"
	"strings"
	"testing"

	"passim/api"
	"passim/disk"
	"passim/hash"
)

func newDisk(t *testing.T, n int) *disk.Disk {
	d, e := disk.New(n)
	if e != api.OK {
		t.Fatal(e)
	}
	return d
}

func open(t *testing.T, d *disk.Disk) *Journal {
	j, e := Open(d)
	if e != api.OK {
		t.Fatal("P39.2:", e)
	}
	return j
}

func TestExample(t *testing.T) {
	for n, want := range map[int]int{-1: 0, 0: 1, 1: 1, 48: 1, 49: 2, 8000: 167, 8001: 0} {
		if c := Count(n); c != want {
			t.Error("P39.1:", n, c)
		}
	}
	d := newDisk(t, 4)
	j := open(t, d)
	if len(j.Numbers()) > 0 || j.Next() != 1 || j.Room() != 4 {
		t.Error("P39.2, P39.3")
	}
	fifty := strings.Repeat("x", 50)
	if n, e := j.Append("a"); n != 1 || e != api.OK {
		t.Error("P39.4:", n, e)
	}
	if n, e := j.Append(fifty); n != 2 || e != api.OK || j.Room() != 1 || !slices.Equal(j.Texts(), []string{"a", fifty}) {
		t.Error("P39.4:", n, e)
	}
	d.Rot(1, 77)
	j = open(t, d)
	if !slices.Equal(j.Numbers(), []int{1}) || !slices.Equal(j.Damaged(), []int{2}) || !slices.Equal(j.Bad(), []int{1}) || j.Next() != 3 {
		t.Error("P39.3, P39.6:", j.Numbers(), j.Damaged(), j.Bad())
	}
	if n, e := j.Append("b"); n != 3 || e != api.OK {
		t.Error("P39.4:", n, e)
	}
	if n, e := j.Append("c"); n != 0 || e != api.ErrFull {
		t.Error("P39.4:", n, e)
	}
}

func TestPack(t *testing.T) {
	text := strings.Repeat("k", 48) + "ing"
	l, e := Pack(258, text)
	if len(l) != 2 || e != api.OK {
		t.Fatal("P39.1:", len(l), e)
	}
	want := "\x02\x01\x00\x00\x01\x00\x03\x00ing" + strings.Repeat("\x00", 45)
	sum := hash.Sum([]byte(want))
	if l[1] != want+string(sum[:8]) {
		t.Errorf("P39.1: %q", l[1])
	}
	if n, part, left, s, ok := Unpack(l[0]); n != 258 || part != 0 || left != 51 || s != text[:48] || !ok {
		t.Error("P39.1:", n, part, left, s, ok)
	}
	if n, part, left, s, ok := Unpack(l[1]); n != 258 || part != 1 || left != 3 || s != "ing" || !ok {
		t.Error("P39.1:", n, part, left, s, ok)
	}
	if _, _, left, s, ok := Unpack(pack1(t, 4096, "")); left != 0 || s != "" || !ok {
		t.Error("P39.1: an empty text")
	}
	bad := func(n, part, left int, text string) string {
		s := sectorOf(field{n, part, left}, text)
		return string(s[:])
	}
	for i, s := range []string{"", l[0][1:], l[0] + "x", strings.Repeat("\x00", 64), "\x03" + l[1][1:], bad(0, 0, 1, "x"), bad(4097, 0, 1, "x"), bad(1, 1, 0, ""), bad(1, 0, 1, "xy"), bad(1, 0, 0, "x"), bad(1, 166, 33, strings.Repeat("x", 33)), bad(1, 0, 8001, strings.Repeat("x", 48))} {
		if n, part, left, p, ok := Unpack(s); n+part+left+len(p) > 0 || ok {
			t.Error("P39.1:", i)
		}
	}
	for i, x := range []struct {
		n    int
		text string
		e    api.Errno
	}{{0, "", api.ErrArg}, {4097, strings.Repeat("x", 8001), api.ErrArg}, {1, strings.Repeat("x", 8001), api.ErrLimit}, {1, strings.Repeat("x", 8000), api.OK}} {
		if l, e := Pack(x.n, x.text); e != x.e || (len(l) > 0) != (e == api.OK) {
			t.Error("P39.1:", i, e)
		}
	}
}

func pack1(t *testing.T, n int, text string) string {
	l, e := Pack(n, text)
	if e != api.OK {
		t.Fatal(e)
	}
	return l[0]
}

// write writes sectors on a disk.
func write(d *disk.Disk, l ...string) {
	for i, s := range l {
		d.Write(i, s)
	}
	d.Flush()
}

func TestFound(t *testing.T) {
	two, _ := Pack(2, strings.Repeat("y", 60))
	other, _ := Pack(2, strings.Repeat("z", 60))
	d := newDisk(t, 9)
	write(d, two[0], pack1(t, 7, "p"), two[0], two[1], other[0], other[1], pack1(t, 1, "q"))
	j := open(t, d)
	if !slices.Equal(j.Numbers(), []int{7, 2, 1}) || j.Texts()[1] != strings.Repeat("y", 60) || j.Next() != 8 || !slices.Equal(j.Damaged(), []int{3, 4, 5, 6}) || len(j.Bad()) > 0 || j.Room() != 2 {
		t.Error("P39.2, P39.3:", j.Numbers(), j.Damaged(), j.Room())
	}
	d = newDisk(t, 3)
	d.Rot(2, 5)
	if j := open(t, d); j.Room() != 0 || !slices.Equal(j.Bad(), []int{2}) || j.Next() != 1 {
		t.Error("P39.3:", j.Room(), j.Bad())
	}
	d.Trip(0)
	d.Flush()
	if j, e := Open(d); j != nil || e != api.ErrDown {
		t.Error("P39.2:", e)
	}
}

func TestErrors(t *testing.T) {
	d := newDisk(t, 200)
	j := open(t, d)
	if n, e := j.Append(strings.Repeat("x", 8001)); n != 0 || e != api.ErrLimit {
		t.Error("P39.4:", e)
	}
	if _, e := j.Append(strings.Repeat("x", 8000)); e != api.OK {
		t.Error("P39.4:", e)
	}
	if _, e := j.Append(strings.Repeat("x", 8000)); e != api.ErrFull {
		t.Error("P39.4:", e)
	}
	d.Wear(168)
	if n, e := j.Append(strings.Repeat("x", 60)); n != 0 || e != api.ErrWorn || j.Next() != 3 || len(j.Numbers()) != 1 {
		t.Error("P39.4:", n, e)
	}
	if n, e := j.Append("y"); n != 3 || e != api.OK {
		t.Error("P39.7:", n, e)
	}
	if j := open(t, d); !slices.Equal(j.Numbers(), []int{1, 3}) || !slices.Equal(j.Damaged(), []int{2}) {
		t.Error("P39.7:", j.Numbers())
	}
	d.Trip(1)
	if n, e := j.Append("z"); n != 0 || e != api.ErrDown {
		t.Error("P39.4:", e)
	}
	d.Mount(nil)
	if n, e := j.Append(strings.Repeat("x", 9999)); n != 0 || e != api.ErrDown {
		t.Error("P39.4: a closed journal:", e)
	}
	last := newDisk(t, 3)
	write(last, pack1(t, 4096, "x"))
	if _, e := open(t, last).Append(""); e != api.ErrLimit {
		t.Error("P39.4:", e)
	}
	j = open(t, d)
	j.Numbers()[0], j.Texts()[0] = 9, "9"
	if j.Numbers()[0] != 1 || j.Texts()[0] == "9" {
		t.Error("P39.2: memory is shared")
	}
}

func TestFailures(t *testing.T) {
	r := rand.New(rand.NewSource(1))
	for range 300 {
		d := newDisk(t, 40)
		var texts []string
		j := open(t, d)
		for range 6 {
			texts = append(texts, strings.Repeat("t", r.Intn(120))+"x")
			if n, e := j.Append(texts[len(texts)-1]); n != len(texts) || e != api.OK {
				t.Fatal("P39.7:", n, e)
			}
		}
		power := d.Clone()
		power.Trip(r.Intn(5))
		j = open(t, power)
		long := strings.Repeat("u", 130)
		_, e := j.Append(long)
		var picks []int
		for range 3 {
			picks = append(picks, r.Intn(70))
		}
		power.Mount(picks)
		found := open(t, power).Texts()
		if !slices.Equal(found, append(slices.Clone(texts), long)) && (e == api.OK || !slices.Equal(found, texts)) {
			t.Fatal("P39.5:", e, found)
		}
		checkRot(t, r, d, texts)
	}
}

func checkRot(t *testing.T, r *rand.Rand, d *disk.Disk, texts []string) {
	hit := r.Intn(len(texts))
	first := 0
	for _, s := range texts[:hit] {
		first += Count(len(s))
	}
	for range 1 + r.Intn(3) {
		d.Rot(first+r.Intn(Count(len(texts[hit]))), r.Intn(512))
	}
	j := open(t, d)
	if len(j.Bad()) == 0 {
		return
	}
	want := slices.Delete(slices.Clone(texts), hit, hit+1)
	if !slices.Equal(j.Texts(), want) || hit < len(texts)-1 && !slices.Equal(j.Damaged(), []int{hit + 1}) {
		t.Fatal("P39.6:", hit, j.Numbers(), j.Damaged())
	}
}
