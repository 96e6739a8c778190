package parity

import (
	"bytes"
	"math/rand"
	"testing"
)

// isZeroAt tells whether the polynomial of b is 0 at x.
func isZeroAt(b []byte, x byte) bool {
	sum := byte(0)
	for _, factor := range b {
		sum = slowMul(sum, x) ^ factor
	}
	return sum == 0
}

func isCell(b []byte) bool {
	return isZeroAt(b, 1) && isZeroAt(b, 2) && isZeroAt(b, 4) && isZeroAt(b, 8)
}

func noise(r *rand.Rand, n int) []byte {
	b := make([]byte, n)
	r.Read(b)
	return b
}

func TestCheck(t *testing.T) { // P3.2
	if got := Check([]byte{1}); got != [4]byte{15, 54, 120, 64} {
		t.Errorf("Check(1) = %v", got)
	}
	if Check() != [4]byte{} || Check(nil) != [4]byte{} || Check([]byte{}, nil) != [4]byte{} {
		t.Errorf("Check of nothing = %v", Check())
	}
	r := rand.New(rand.NewSource(3))
	for i := 0; i < 256; i++ {
		c := Check([]byte{byte(i)})
		if !isCell(append([]byte{byte(i)}, c[:]...)) {
			t.Fatalf("Check(%d) = %v", i, c)
		}
	}
	for _, n := range []int{2, 3, 4, 5, 100, 250, 251, 252, 255, 256, 1000, 70000} {
		b := noise(r, n)
		c := Check(b)
		if !isCell(append(bytes.Clone(b), c[:]...)) {
			t.Errorf("Check of %d bytes = %v: not 0 everywhere", n, c)
		}
		one, two := r.Intn(n+1), r.Intn(n+1)
		one, two = min(one, two), max(one, two)
		if Check(b[:one], b[one:two], nil, b[two:]) != c {
			t.Errorf("Check of %d bytes by three lists isn't that of one", n)
		}
	}
}

func TestGood(t *testing.T) { // P3.2
	for _, b := range [][]byte{nil, {}, {0}, {0, 0}, {0, 0, 0}, {1, 2, 3}, {1, 0, 0, 0}, {0, 0, 0, 1}, {1, 15, 54, 120, 65}, {0, 15, 54, 120, 64}} {
		if Good(b) {
			t.Errorf("Good(%v)", b)
		}
	}
	for _, b := range [][]byte{{0, 0, 0, 0}, {0, 0, 0, 0, 0}, {1, 15, 54, 120, 64}, {0, 1, 15, 54, 120, 64}} {
		if !Good(b) {
			t.Errorf("not Good(%v)", b)
		}
	}
	r := rand.New(rand.NewSource(4))
	for n := 0; n < 600; n++ {
		b := noise(r, n)
		c := Check(b)
		if b = append(b, c[:]...); !Good(b) {
			t.Fatalf("%d bytes and their check bytes aren't Good", n)
		}
		if b[r.Intn(len(b))] ^= 1 << r.Intn(8); Good(b) {
			t.Fatalf("%d bytes with a wrong one are Good", n)
		}
	}
}

// goodWith tells whether a cell is still Good with other bytes at some of its places.
func goodWith(cell []byte, places []int, by []byte) bool {
	b := bytes.Clone(cell)
	for i, at := range places {
		b[at] ^= by[i]
	}
	return Good(b)
}

func TestChangesAreTold(t *testing.T) { // P3.3
	r := rand.New(rand.NewSource(5))
	for _, n := range []int{1, 2, 3, 100, 250, 251} {
		cell := noise(r, n)
		c := Check(cell)
		cell = append(cell, c[:]...)
		for at := range cell {
			for x := 1; x < 256; x++ {
				if goodWith(cell, []int{at}, []byte{byte(x)}) {
					t.Fatalf("%d bytes: another byte at %d isn't told", n, at)
				}
			}
		}
		for range 30000 {
			places := r.Perm(len(cell))[:min(1+r.Intn(4), len(cell))]
			by := make([]byte, len(places))
			for i := range by {
				by[i] = byte(1 + r.Intn(255))
			}
			if goodWith(cell, places, by) {
				t.Fatalf("%d bytes: changes by %v at %v aren't told", n, by, places)
			}
		}
	}
}

// Any four changes are told just if no two of a cell's places count alike: the four sums are then the rows of a matrix that has an inverse.
func TestPlacesCountDifferently(t *testing.T) { // P3.3
	seen := map[byte]int{}
	for at := 0; at < 255; at++ {
		if other, there := seen[Pow(at)]; there {
			t.Fatalf("the places %d and %d count alike", other, at)
		}
		seen[Pow(at)] = at
	}
}
