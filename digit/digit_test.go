package digit

import (
	"math/rand"
	"slices"
	"strings"
	"testing"

	"passim/api"
)

func TestExamples(t *testing.T) {
	if Value('X') != 30 || Value('I') != -1 || Value('0') != 0 || Value('a') != -1 || Value(0xC4) != -1 {
		t.Error("P18.1")
	}
	for i, r := range Alphabet {
		if Value(byte(r)) != i {
			t.Error("P18.1:", i)
		}
	}
	if n, e := Sum([]int{3, 2, 1}, 10, []int{4, 5, 6}); n != 8 || e != api.OK {
		t.Error("P18.2:", n, e)
	}
	for i, x := range []struct {
		weights []int
		mod     int
		want    Flaw
		weak    bool
	}{{[]int{3, 1}, 10, Flaw{0, 1, 0, 5}, true}, {[]int{3, 2}, 10, Flaw{1, -1, 0, 5}, true}, {[]int{3, 1}, 31, Flaw{}, false}, {nil, 10, Flaw{}, false}, {[]int{0}, 10, Flaw{0, -1, 0, 1}, true}, {[]int{1, 1}, 10, Flaw{0, 1, 0, 1}, true}, {[]int{1, 2}, 2, Flaw{}, false}} {
		f, weak, e := Weak(x.weights, x.mod)
		if i < 6 && (f != x.want || weak != x.weak || e != api.OK) || i == 6 && e != api.ErrArg {
			t.Error("P18.3:", i, f, weak, e)
		}
	}
	if s, e := Add("A1"); s != "A10" || e != api.OK {
		t.Error("P18.4:", s, e)
	}
	if l := Near("1A0"); !slices.Equal(l, []string{"1AP", "1U0", "7A0", "A10"}) {
		t.Error("P18.6:", l)
	}
}

func TestErrors(t *testing.T) {
	for i, x := range []struct {
		weights []int
		mod     int
		values  []int
		e, weak api.Errno
	}{{make([]int, 257), 1, nil, api.ErrLimit, api.ErrLimit}, {nil, 1, nil, api.ErrArg, api.ErrArg}, {nil, 1025, nil, api.ErrArg, api.ErrArg}, {nil, 1024, nil, api.OK, api.OK}, {[]int{-1}, 5, []int{0}, api.ErrArg, api.ErrArg}, {[]int{5}, 5, []int{0}, api.ErrArg, api.ErrArg},
		{[]int{1}, 5, nil, api.ErrArg, api.OK}, {[]int{1}, 5, []int{5}, api.ErrArg, api.OK}, {[]int{1}, 5, []int{-1}, api.ErrArg, api.OK}} {
		if n, e := Sum(x.weights, x.mod, x.values); n != 0 || e != x.e {
			t.Error("P18.2:", i, n, e)
		}
		if f, weak, e := Weak(x.weights, x.mod); f != (Flaw{}) || weak || e != x.weak {
			t.Error("P18.3:", i, f, weak, e)
		}
	}
	for s, want := range map[string][2]api.Errno{"": {api.ErrForm, api.ErrForm}, "0": {api.OK, api.ErrForm}, "I0": {api.ErrForm, api.ErrForm}, strings.Repeat("0", 63): {api.OK, api.OK}, strings.Repeat("0", 64): {api.ErrLimit, api.OK}, strings.Repeat("0", 65): {api.ErrLimit, api.ErrLimit}, strings.Repeat("a", 65): {api.ErrForm, api.ErrForm}, "01": {api.OK, api.ErrSum}} {
		if r, e := Add(s); e != want[0] || (e == api.OK) != (r != "") {
			t.Error("P18.4:", s, e)
		}
		if e := Check(s); e != want[1] {
			t.Error("P18.5:", s, e)
		}
		if l := Near(s); (len(l) > 0) != (want[1] == api.ErrSum) {
			t.Error("P18.6:", s, l)
		}
	}
}

func gcd(a, b int) int {
	for b != 0 {
		a, b = b, a%b
	}
	return a
}

func TestFlaws(t *testing.T) {
	r := rand.New(rand.NewSource(1))
	for range 500 {
		m := 2 + r.Intn(12)
		w, v, u, sum := make([]int, r.Intn(5)), []int{}, []int{}, []int{}
		good := true
		for i := range w {
			w[i] = r.Intn(m)
			good = good && gcd(w[i], m) == 1 && (i == 0 || gcd((w[i]-w[i-1]+m)%m, m) == 1)
			v, u = append(v, r.Intn(m)), append(u, r.Intn(m))
			sum = append(sum, (v[i]+u[i])%m)
		}
		f, weak, e := Weak(w, m)
		if e != api.OK || weak == good {
			t.Fatal("P18.9:", w, m, f, weak)
		}
		a, _ := Sum(w, m, v)
		b, _ := Sum(w, m, u)
		if c, _ := Sum(w, m, sum); c != (a+b)%m {
			t.Fatal("P18.10:", w, m)
		}
		if weak {
			first := brute(w, m)
			if f != first {
				t.Fatal("P18.3:", w, m, f, first)
			}
		}
	}
}

// brute finds the first slip that does not change the sum by trying all.
func brute(w []int, m int) Flaw {
	for i := range w {
		for other := -1; other <= i+1; other += i + 2 {
			if other == len(w) {
				break
			}
			for old := range m {
				for new := range m {
					before, after := w[i]*old, w[i]*new
					if other >= 0 {
						before, after = before+w[other]*new, after+w[other]*old
					}
					if old != new && (after-before)%m == 0 {
						return Flaw{i, other, old, new}
					}
				}
			}
		}
	}
	return Flaw{}
}

func TestSlips(t *testing.T) {
	r := rand.New(rand.NewSource(2))
	for range 200 {
		b := make([]byte, 1+r.Intn(63))
		for i := range b {
			b[i] = Alphabet[r.Intn(31)]
		}
		s, _ := Add(string(b))
		if Check(s) != api.OK || len(Near(s)) > 0 {
			t.Fatal("P18.4, P18.7:", s)
		}
		slip := []byte(s)
		i := r.Intn(len(slip) - 1)
		if r.Intn(2) == 0 {
			slip[i] = Alphabet[r.Intn(31)]
		} else {
			slip[i], slip[i+1] = slip[i+1], slip[i]
		}
		if string(slip) == s {
			continue
		}
		near := Near(string(slip))
		if Check(string(slip)) != api.ErrSum || !slices.Contains(near, s) || len(near) > 2*len(s)-1 || !slices.IsSorted(near) {
			t.Fatal("P18.7, P18.8:", s, string(slip), near)
		}
	}
}
