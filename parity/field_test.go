package parity

import (
	"math"
	"testing"
)

// slowMul multiplies as polynomials first and reduces then.
func slowMul(a, b byte) byte {
	product := 0
	for i := 0; i < 8; i++ {
		for j := 0; j < 8; j++ {
			if a>>i&1 == 1 && b>>j&1 == 1 {
				product ^= 1 << (i + j)
			}
		}
	}
	for i := 14; i >= 8; i-- {
		if product>>i&1 == 1 {
			product ^= 0x11d << (i - 8)
		}
	}
	return byte(product)
}

func TestMul(t *testing.T) { // P3.1
	if got := Mul(2, 128); got != 29 {
		t.Errorf("Mul(2, 128) = %d", got)
	}
	for a := 0; a < 256; a++ {
		for b := 0; b < 256; b++ {
			if got, want := Mul(byte(a), byte(b)), slowMul(byte(a), byte(b)); got != want {
				t.Fatalf("Mul(%d, %d) = %d, not %d", a, b, got, want)
			}
		}
	}
}

func TestFieldLaws(t *testing.T) { // P3.1
	for i := 0; i < 256; i++ {
		a, inverses := byte(i), 0
		if Mul(a, 1) != a || Mul(a, 0) != 0 {
			t.Fatalf("%d by 1 or 0", a)
		}
		for j := 0; j < 256; j++ {
			b := byte(j)
			if Mul(a, b) != Mul(b, a) {
				t.Fatalf("%d by %d isn't the same both ways", a, b)
			}
			if Mul(a, b) == 1 {
				inverses++
			}
			for k := 0; k < 256; k += 5 {
				c := byte(k)
				if Mul(a, Mul(b, c)) != Mul(Mul(a, b), c) || Mul(a, b^c) != Mul(a, b)^Mul(a, c) {
					t.Fatalf("%d, %d, %d: not bound together as in a field", a, b, c)
				}
			}
		}
		if (a != 0) != (inverses == 1) {
			t.Fatalf("%d has %d inverses", a, inverses)
		}
	}
}

func TestPow(t *testing.T) { // P3.1
	for n, want := range map[int]byte{0: 1, 1: 2, 7: 128, 8: 29, -1: 142, 254: 142, 255: 1, -255: 1, 256: 2, -254: 2} {
		if got := Pow(n); got != want {
			t.Errorf("Pow(%d) = %d, not %d", n, got, want)
		}
	}
	for n := -600; n <= 600; n++ {
		if Pow(n+1) != Mul(Pow(n), 2) {
			t.Fatalf("Pow(%d) isn't twice Pow(%d)", n+1, n)
		}
	}
	// 2^8 counts as 1 modulo 255, so 2^63 counts as 2^7 = 128.
	if got, want := Pow(math.MaxInt), Pow(127); got != want {
		t.Errorf("Pow(MaxInt) = %d, not %d", got, want)
	}
	if got, want := Pow(math.MinInt), Pow(-128); got != want {
		t.Errorf("Pow(MinInt) = %d, not %d", got, want)
	}
}
