package link

import (
	"bytes"
	"math"
	"math/rand"
	"slices"
	"testing"

	"passim/api"
	"passim/wire"
)

const key = 77

func end(t *testing.T, window int) *End {
	e, err := New(window, key)
	if err != api.OK {
		t.Fatal(err)
	}
	return e
}

func packet(seq, ack int, b string) []byte {
	return Seal(key, slices.Concat(wire.Ints([]int{seq, ack}), wire.Bytes(b)))
}

func text(l [][]byte) string { return string(bytes.Join(l, []byte("|"))) }

func TestExample(t *testing.T) {
	a, b := end(t, 2), end(t, 5)
	for _, m := range []string{"a", "b", "c"} {
		if e := a.Send([]byte(m)); e != api.OK {
			t.Error("P37.1:", e)
		}
	}
	out := a.Out()
	if len(out) != 2 || !bytes.Equal(out[0], packet(1, 0, "a")) || !bytes.Equal(out[1], packet(2, 0, "b")) {
		t.Fatal("P37.2:", out)
	}
	if l, e := b.In(out[1]); len(l) != 0 || e != api.OK {
		t.Error("P37.3:", l, e)
	}
	if l, e := b.In(out[0]); text(l) != "a|b" || e != api.OK {
		t.Error("P37.3:", text(l), e)
	}
	back := b.Out()
	if len(back) != 1 || !bytes.Equal(back[0], packet(0, 2, "")) || len(b.Out()) != 0 {
		t.Error("P37.2:", back)
	}
	if _, e := a.In(back[0]); e != api.OK || a.Waiting() != 1 {
		t.Error("P37.3:", e, a.Waiting())
	}
	if out := a.Out(); len(out) != 1 || !bytes.Equal(out[0], packet(3, 0, "c")) {
		t.Error("P37.2:", out)
	}
}

func TestIn(t *testing.T) {
	for _, w := range []int{0, 17, -1} {
		if e, err := New(w, key); e != nil || err != api.ErrArg {
			t.Error("P37.1:", err)
		}
	}
	e := end(t, 16)
	if err := e.Send(make([]byte, 65537)); err != api.ErrLimit || e.Waiting() != 0 {
		t.Error("P37.1:", err)
	}
	for range 1000 {
		e.Send(nil)
	}
	if err := e.Send(nil); err != api.ErrLimit || e.Waiting() != 1000 || len(e.Out()) != 16 {
		t.Error("P37.1:", err)
	}
	for i, x := range []struct {
		b []byte
		e api.Errno
	}{{nil, api.ErrForm}, {make([]byte, 7), api.ErrForm}, {make([]byte, 8), api.ErrSum}, {Seal(key+1, []byte("x")), api.ErrSum}, {Seal(key, nil), api.ErrForm}, {append(packet(1, 0, "a"), 0), api.ErrSum}, {Seal(key, append(slices.Concat(wire.Ints([]int{1, 0}), wire.Bytes("a")), 0)), api.ErrForm},
		{Seal(key, slices.Concat(wire.Ints([]int{1}), wire.Bytes("a"))), api.ErrForm}, {packet(-1, 0, "a"), api.ErrForm}, {packet(1, -1, "a"), api.ErrForm}, {packet(0, 1, "a"), api.ErrForm}, {packet(1, 0, string(make([]byte, 65537))), api.ErrForm},
		{packet(17, 1000, "a"), api.OK}, {packet(1, 1001, "a"), api.OK}, {packet(math.MaxInt, 0, "a"), api.OK}} {
		forged := e.Forged()
		if x.e == api.ErrSum {
			forged++
		}
		if l, err := e.In(x.b); len(l) > 0 || err != x.e || e.Forged() != forged || e.Waiting() != 1000 || e.delivered != 0 || e.owing || len(e.held) > 0 {
			t.Error("P37.3:", i, l, err, e.Forged())
		}
	}
	if l, err := e.In(packet(16, 998, "p")); len(l) > 0 || err != api.OK || e.Waiting() != 2 || !e.owing {
		t.Error("P37.3:", err)
	}
	e.In(packet(16, 5, "q"))
	for n := 15; n > 1; n-- {
		e.In(packet(n, 0, "x"))
	}
	l, _ := e.In(packet(1, 0, "a"))
	if len(l) != 16 || string(l[0]) != "a" || string(l[15]) != "p" || e.Waiting() != 2 || len(e.held) > 0 {
		t.Error("P37.3:", text(l))
	}
	if l, err := e.In(packet(3, 0, "again")); len(l) > 0 || err != api.OK || !e.owing {
		t.Error("P37.3: a repeated packet")
	}
	if out := e.Out(); len(out) != 2 || e.owing || !bytes.Equal(out[0], packet(999, 16, "")) {
		t.Error("P37.2:", out)
	}
}

func TestSeal(t *testing.T) {
	const start uint64 = 14695981039346656037
	h := start ^ 5
	h = (h ^ 'x') * 1099511628211
	want := []byte{'x'}
	for i := range 8 {
		want = append(want, byte(h>>(8*i)))
	}
	b := Seal(5, []byte("x"))
	if !bytes.Equal(b, want) {
		t.Error("P37.4:", b)
	}
	if x, e := Open(5, b); string(x) != "x" || e != api.OK {
		t.Error("P37.4:", x, e)
	}
	long := Seal(9, []byte("the king of rome"))
	for i := range long {
		for _, d := range []byte{1, 128, 255} {
			c := slices.Clone(long)
			c[i] ^= d
			if x, e := Open(9, c); len(x) > 0 || e != api.ErrSum {
				t.Error("P37.7:", i, d, e)
			}
		}
	}
}

func TestMemory(t *testing.T) {
	a := end(t, 3)
	m := []byte("abc")
	a.Send(m)
	m[0] = 'x'
	c := a.Copy()
	out := a.Out()
	out[0][3]++
	if !bytes.Equal(c.Out()[0], packet(1, 0, "abc")) || !bytes.Equal(a.Out()[0], packet(1, 0, "abc")) {
		t.Error("P37.4: memory is shared")
	}
	a.In(packet(2, 1, "y"))
	c.In(packet(1, 0, "z"))
	if l, _ := a.In(packet(1, 0, "x")); text(l) != "x|y" || c.Waiting() != 1 || a.Waiting() != 0 {
		t.Error("P37.4: a copy is not independent")
	}
}

func TestOrder(t *testing.T) {
	r := rand.New(rand.NewSource(1))
	for range 200 {
		ends := [2]*End{end(t, 1+r.Intn(16)), end(t, 1+r.Intn(16))}
		var sent, got [2][]string
		var packets [2][][]byte
		for range 200 {
			i := r.Intn(2)
			switch r.Intn(4) {
			case 0:
				m := string([]byte{byte(len(sent[i])), byte(i)})
				ends[i].Send([]byte(m))
				sent[i] = append(sent[i], m)
			case 1:
				packets[i] = append(packets[i], ends[i].Out()...)
			default:
				if len(packets[1-i]) == 0 {
					continue
				}
				p := slices.Clone(packets[1-i][r.Intn(len(packets[1-i]))])
				if r.Intn(5) == 0 {
					p[r.Intn(len(p))] ^= byte(1 + r.Intn(255))
				}
				l, _ := ends[i].In(p)
				for _, m := range l {
					got[i] = append(got[i], string(m))
				}
			}
		}
		for i := range ends {
			if len(got[i]) > len(sent[1-i]) || !slices.Equal(got[i], sent[1-i][:len(got[i])]) {
				t.Fatal("P37.5:", got[i], sent[1-i])
			}
		}
		for range max(ends[0].Waiting(), ends[1].Waiting()) + 1 {
			for i := range ends {
				for _, p := range ends[i].Out() {
					l, _ := ends[1-i].In(p)
					for _, m := range l {
						got[1-i] = append(got[1-i], string(m))
					}
				}
			}
		}
		for i := range ends {
			if !slices.Equal(got[i], sent[1-i]) || ends[i].Waiting() > 0 {
				t.Fatal("P37.6:", got[i], sent[1-i], ends[i].Waiting())
			}
		}
	}
}
