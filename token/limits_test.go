package token

import "testing"

func TestDigits(t *testing.T) {
	if l := Split("0a09 x0"); len(l) != 5 || l[0].Kind != Number || l[2] != (Token{2, 4, Number}) || l[4].Kind != Number {
		t.Error("P6.2:", l)
	}
	for _, x := range [][2]int{{0, 0}, {1, 1}, {2, 2}} {
		if s := Part("a b", x[0], x[1]); s != "" {
			t.Error("P6.3:", x, s)
		}
	}
	if s := Part("a b", 1, 2); s != "b" {
		t.Error("P6.3:", s)
	}
}
