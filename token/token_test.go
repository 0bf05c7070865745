package token

import (
	"math/rand"
	"slices"
	"strings"
	"testing"

	"passim/api"
)

const example = "The king of Rome, see @. 12 odes!"

func TestExample(t *testing.T) {
	l := Split(example)
	if len(l) != 11 || l[4] != (Token{16, 17, Sign}) || l[6].Kind != Mark || l[8] != (Token{25, 27, Number}) || l[0] != (Token{0, 3, Word}) {
		t.Error("P6.2:", l)
	}
	if s := Part(example, 3, 5); s != "Rome," {
		t.Error("P6.3:", s)
	}
	if w := Words(example); !slices.Equal(w, []string{"the", "king", "of", "rome", "see", "odes"}) {
		t.Error("P6.4:", w)
	}
	if l := Sentences(example); !slices.Equal(l, [][2]int{{0, 8}, {8, 11}}) {
		t.Error("P6.5:", l)
	}
	if l := Marks(example); !slices.Equal(l, []int{6}) {
		t.Error("P6.6:", l)
	}
	if a, b, e := Cut(example, 8); a != "The king of Rome, see @." || b != "12 odes!" || e != api.OK {
		t.Error("P6.7:", a, b, e)
	}
	for _, k := range []int{4, 0, -1, 11, 12, 7} {
		if a, b, e := Cut(example, k); a != "" || b != "" || e != api.ErrRange {
			t.Error("P6.7:", k, a, b, e)
		}
	}
	if _, _, e := Cut("a  b", 1); e != api.ErrForm {
		t.Error("P6.7:", e)
	}
}

func TestValid(t *testing.T) {
	for s, want := range map[string]api.Errno{"a  b": api.ErrForm, "": api.ErrForm, " a": api.ErrForm, "a ": api.ErrForm, "a\tb": api.ErrForm, "\x7f": api.ErrForm, "\xe4": api.ErrForm, "~!": api.OK, "a b": api.OK,
		strings.Repeat("a", 4096): api.OK, strings.Repeat(" ", 4097): api.ErrLimit, strings.Repeat(".", 256): api.OK, strings.Repeat(".", 257): api.ErrLimit, strings.Repeat(".", 257) + "  ": api.ErrForm} {
		if e := Valid(s); e != want {
			t.Error("P6.1:", len(s), e)
		}
	}
}

func TestAnyBytes(t *testing.T) {
	s := "a1\x00\xffB@@  9.x!? \t"
	want := []Token{{0, 1, Word}, {1, 2, Number}, {2, 3, Sign}, {3, 4, Sign}, {4, 5, Word}, {5, 6, Mark}, {6, 7, Mark}, {9, 10, Number}, {10, 11, Sign}, {11, 12, Word}, {12, 13, Sign}, {13, 14, Sign}, {15, 16, Sign}}
	if l := Split(s); !slices.Equal(l, want) {
		t.Error("P6.2:", l)
	}
	for _, x := range [][2]int{{-1, 2}, {2, 2}, {3, 2}, {0, 14}, {13, 14}} {
		if p := Part(s, x[0], x[1]); p != "" {
			t.Error("P6.3:", x, p)
		}
	}
	if p := Part(s, 12, 13); p != "\t" {
		t.Error("P6.3:", p)
	}
	if l := Sentences(s); !slices.Equal(l, [][2]int{{0, 12}, {12, 13}}) {
		t.Error("P6.5: a stop is the last token of its unit:", l)
	}
	if l := Marks(s); !slices.Equal(l, []int{5, 6}) {
		t.Error("P6.6:", l)
	}
	if s := Fold("AZ[@`az\xc0"); s != "az[@`az\xc0" {
		t.Error("P6.4:", s)
	}
	if len(Split("")) != 0 || len(Sentences("  ")) != 0 || len(Words("1 @")) != 0 {
		t.Error("P6.2: nothing")
	}
}

func text(r *rand.Rand) string {
	const bytes = "abAZ19@.?! ,("
	for {
		b := make([]byte, 1+r.Intn(14))
		for i := range b {
			b[i] = bytes[r.Intn(len(bytes))]
		}
		if Valid(string(b)) == api.OK {
			return string(b)
		}
	}
}

func checkTokens(t *testing.T, s string) {
	l, end := Split(s), 0
	for i, x := range l {
		if x.At >= x.End || x.At < end || strings.Trim(s[end:x.At], " ") != "" {
			t.Fatal("P6.8:", s, l)
		}
		if i > 0 && x.At == end && x.Kind == l[i-1].Kind && x.Kind <= Number {
			t.Fatal("P6.8: neighbours:", s, l)
		}
		end = x.End
	}
	if Part(s, 0, len(l)) != s {
		t.Fatal("P6.8: all of it:", s)
	}
}

func TestProperties(t *testing.T) {
	r := rand.New(rand.NewSource(1))
	for range 3000 {
		a, b := text(r), text(r)
		checkTokens(t, a)
		s, n := Join(a, b), len(Split(a))
		if s != a+" "+b {
			t.Fatal("P6.7:", s)
		}
		want := Split(a)
		for _, x := range Split(b) {
			want = append(want, Token{x.At + len(a) + 1, x.End + len(a) + 1, x.Kind})
		}
		if !slices.Equal(Split(s), want) || !slices.Equal(Words(s), slices.Concat(Words(a), Words(b))) {
			t.Fatal("P6.9:", s)
		}
		if x, y, e := Cut(s, n); x != a || y != b || e != api.OK {
			t.Fatal("P6.9:", s, x, y, e)
		}
		for k := range len(want) + 1 {
			if x, y, e := Cut(s, k); e == api.OK && Join(x, y) != s {
				t.Fatal("P6.9:", s, k)
			}
		}
		last := Part(a, n-1, n)
		first := Sentences(a)
		for i, x := range Sentences(b) {
			x[0], x[1] = x[0]+n, x[1]+n
			if i == 0 && !strings.Contains(".?!", last) {
				first[len(first)-1][1] = x[1]
			} else {
				first = append(first, x)
			}
		}
		if !slices.Equal(Sentences(s), first) {
			t.Fatal("P6.10:", s, Sentences(s), first)
		}
		if f := Fold(s); Fold(f) != f || !slices.Equal(Split(f), want) || !slices.Equal(Words(f), Words(s)) {
			t.Fatal("P6.11:", s)
		}
	}
}
