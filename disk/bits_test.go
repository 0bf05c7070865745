package disk

import "testing"

func TestBits(t *testing.T) {
	d := open(t, 1)
	for bit := range 512 {
		d.Rot(0, bit)
		for i := range 64 {
			want := byte(0)
			if i == bit/8 {
				want = 1 << (bit % 8)
			}
			if d.Image()[0][i] != want {
				t.Fatal("P38.5:", bit, i)
			}
		}
		d.Rot(0, bit)
	}
}
