package parity

import (
	"bytes"
	"math"
	"math/rand"
	"testing"

	"groyne/api"
)

func cellOf(b ...byte) []byte {
	c := Check(b)
	return append(b, c[:]...)
}

// slowSeal is a record by the chapter's words.
func slowSeal(b []byte) []byte {
	n := len(b)
	record := cellOf(byte(n>>24), byte(n>>16), byte(n>>8), byte(n))
	for i := 0; i < n; i += 251 {
		record = append(record, cellOf(bytes.Clone(b[i:min(i+251, n)])...)...)
	}
	return record
}

func mustSeal(t *testing.T, b []byte) []byte {
	t.Helper()
	record, e := Seal(b)
	if e != api.OK {
		t.Fatalf("Seal of %d bytes: %d", len(b), e)
	}
	return record
}

var lengths = []int{0, 1, 2, 250, 251, 252, 253, 501, 502, 503, 4096, 65535, 65536, api.MaxRecord - 1, api.MaxRecord}

func TestSealAndOpen(t *testing.T) { // P3.4
	if got := mustSeal(t, nil); !bytes.Equal(got, make([]byte, 8)) {
		t.Errorf("Seal() = %v", got)
	}
	if got, want := mustSeal(t, []byte{1}), append(cellOf(0, 0, 0, 1), 1, 15, 54, 120, 64); !bytes.Equal(got, want) {
		t.Errorf("Seal(1) = %v", got)
	}
	r := rand.New(rand.NewSource(6))
	for _, n := range lengths {
		b := noise(r, n)
		record := mustSeal(t, b)
		if !bytes.Equal(record, slowSeal(b)) {
			t.Fatalf("Seal of %d bytes is another record", n)
		}
		if len(record) != Sealed(n) {
			t.Errorf("Sealed(%d) = %d, not %d", n, Sealed(n), len(record))
		}
		whole := append(append([]byte{9, 9, 9}, record...), 9)
		got, next, e := Open(whole, 3)
		if e != api.OK || next != 3+len(record) || !bytes.Equal(got, b) {
			t.Errorf("Open of %d bytes: %d bytes, %d, %d", n, len(got), next, e)
		}
	}
	if record, e := Seal(make([]byte, api.MaxRecord+1)); e != api.ErrSize || record != nil {
		t.Errorf("Seal of too much: %d bytes, %d", len(record), e)
	}
}

func TestSealed(t *testing.T) { // P3.4
	for n, want := range map[int]int{
		0: 8, 1: 13, 251: 8 + 255, 252: 8 + 255 + 5, 502: 8 + 255 + 255, 503: 8 + 255 + 255 + 5,
		api.MaxRecord:     8 + api.MaxRecord + 4*4178,
		api.MaxRecord + 1: 0, -1: 0, math.MaxInt: 0, math.MinInt: 0,
	} {
		if got := Sealed(n); got != want {
			t.Errorf("Sealed(%d) = %d, not %d", n, got, want)
		}
	}
}

func wantOpen(t *testing.T, what string, b []byte, at int, want api.Errno) {
	t.Helper()
	got, next, e := Open(b, at)
	if e != want || e != api.OK && (got != nil || next != 0) {
		t.Errorf("%s: %d bytes, %d, %d; want %d", what, len(got), next, e, want)
	}
}

func TestOpenTellsTheFirstThing(t *testing.T) { // P3.4
	record := mustSeal(t, noise(rand.New(rand.NewSource(7)), 300)) // cells at 0, 8, 263
	for _, at := range []int{-1, len(record) + 1, math.MinInt, math.MaxInt} {
		wantOpen(t, "a place out of range", record, at, api.ErrArg)
	}
	wantOpen(t, "a place in nothing", nil, 1, api.ErrArg)
	wantOpen(t, "nothing", nil, 0, api.ErrEnd)
	wantOpen(t, "the end", record, len(record), api.ErrEnd)
	for n := range record {
		wantOpen(t, "a record that ends early", record[:n], 0, api.ErrEnd)
	}
	for i := range record {
		b := bytes.Clone(record)
		b[i] ^= 0x40
		wantOpen(t, "a changed byte", b, 0, api.ErrSum)
	}
	b := bytes.Clone(record)
	b[9] ^= 1
	wantOpen(t, "a wrong cell, and an end behind it", b[:263], 0, api.ErrSum)
	wantOpen(t, "an end within a wrong cell", b[:262], 0, api.ErrEnd)
	b[0] ^= 1
	wantOpen(t, "a wrong length that isn't all there", b[:7], 0, api.ErrEnd)
	wantOpen(t, "a wrong length", b[:8], 0, api.ErrSum)
	for _, n := range []uint32{api.MaxRecord + 1, 1 << 31, math.MaxUint32} {
		wantOpen(t, "a length that is too great", cellOf(byte(n>>24), byte(n>>16), byte(n>>8), byte(n)), 0, api.ErrSize)
	}
	wantOpen(t, "the greatest length", cellOf(0, 16, 0, 0), 0, api.ErrEnd)
	wantOpen(t, "a wrong length that is too great", append([]byte{255, 255, 255, 255}, 0, 0, 0, 1), 0, api.ErrSum)
}

func TestOpenAll(t *testing.T) { // P3.4
	first, second := mustSeal(t, []byte("first")), mustSeal(t, nil)
	third := mustSeal(t, bytes.Repeat([]byte{7}, 300))
	both := append(bytes.Clone(first), second...)
	all := append(bytes.Clone(both), third...)
	spoilt := bytes.Clone(all)
	spoilt[len(both)+20] ^= 1
	great := append(bytes.Clone(both), cellOf(255, 0, 0, 0)...)
	for _, c := range []struct {
		what     string
		b        []byte
		n, place int
	}{
		{"nothing", nil, 0, 0},
		{"no record", []byte{1, 2, 3}, 0, 0},
		{"one", first, 1, len(first)},
		{"two", both, 2, len(both)},
		{"three", all, 3, len(all)},
		{"three, a byte short", all[:len(all)-1], 2, len(both)},
		{"three and a byte", append(bytes.Clone(all), 0), 3, len(all)},
		{"a spoilt third", append(spoilt, first...), 2, len(both)},
		{"a third that is too great", great, 2, len(both)},
	} {
		got, place := OpenAll(c.b)
		if len(got) != c.n || place != c.place {
			t.Errorf("%s: %d records up to %d", c.what, len(got), place)
		}
		for i, want := range [][]byte{[]byte("first"), nil, bytes.Repeat([]byte{7}, 300)}[:len(got)] {
			if !bytes.Equal(got[i], want) {
				t.Errorf("%s: the record %d: %v", c.what, i, got[i])
			}
		}
	}
}

func TestWrapAndUnwrap(t *testing.T) { // P3.4
	r := rand.New(rand.NewSource(8))
	for _, n := range []int{0, 1, 251, 4095, 4096, 4097, 8191, 8192, 8193, 100000, 3 * api.MaxRecord} {
		b := noise(r, n)
		var want []byte
		for i := 0; i <= n; i += 4096 {
			want = append(want, slowSeal(b[i:min(i+4096, n)])...)
		}
		wrapped := Wrap(b)
		if !bytes.Equal(wrapped, want) {
			t.Errorf("Wrap of %d bytes: %d bytes", n, len(wrapped))
		}
		if got, e := Unwrap(wrapped); e != api.OK || !bytes.Equal(got, b) {
			t.Errorf("Unwrap of %d bytes: %d bytes, %d", n, len(got), e)
		}
	}
}

func TestUnwrapErrors(t *testing.T) { // P3.4
	long := bytes.Repeat([]byte{3}, 5000)
	piece, short, big := mustSeal(t, long[:4096]), mustSeal(t, []byte{1}), mustSeal(t, long)
	join := func(parts ...[]byte) []byte { return bytes.Join(parts, nil) }
	spoilt := bytes.Clone(short)
	spoilt[12] ^= 1
	for _, c := range []struct {
		what string
		b    []byte
		want api.Errno
		n    int
	}{
		{"nothing", nil, api.ErrEnd, 0},
		{"no shorter one at the end", piece, api.ErrEnd, 0},
		{"a piece that isn't all there", piece[:300], api.ErrEnd, 0},
		{"a spoilt one", join(piece, spoilt), api.ErrSum, 0},
		{"one that is too great", join(piece, cellOf(255, 0, 0, 0)), api.ErrSize, 0},
		{"a record behind the end", join(short, piece), api.ErrForm, 0},
		{"a byte behind the end", join(piece, short, []byte{0}), api.ErrForm, 0},
		{"a spoilt one behind the end", join(short, spoilt), api.ErrForm, 0},
		{"an empty one behind the end", join(short, mustSeal(t, nil)), api.ErrForm, 0},
		{"a greater piece", join(big, short), api.OK, 5001},
		{"greater pieces alone", join(big, big), api.ErrEnd, 0},
	} {
		got, e := Unwrap(c.b)
		if e != c.want || len(got) != c.n {
			t.Errorf("%s: %d bytes, %d; want %d", c.what, len(got), e, c.want)
		}
	}
}

// fenced answers b within a greater array whose spare room is known.
func fenced(b []byte) ([]byte, []byte) {
	whole := append(append(make([]byte, 0, len(b)+64), b...), bytes.Repeat([]byte{0xee}, 64)...)
	return whole[:len(b):len(whole)], whole
}

func spoil(b []byte) {
	b = b[:cap(b)]
	for i := range b {
		b[i] ^= 0xff
	}
}

func TestMemory(t *testing.T) { // P3.5
	plain := bytes.Repeat([]byte{1, 2, 3}, 2000)
	sealed, wrapped := mustSeal(t, plain), Wrap(plain)
	two := append(bytes.Clone(sealed), sealed...)
	calls := map[string]func(b []byte) [][]byte{
		"Check":   func(b []byte) [][]byte { Check(b, b[:3]); return nil },
		"Good":    func(b []byte) [][]byte { Good(b); return nil },
		"Seal":    func(b []byte) [][]byte { r, _ := Seal(b); return [][]byte{r} },
		"Wrap":    func(b []byte) [][]byte { return [][]byte{Wrap(b)} },
		"Open":    func(b []byte) [][]byte { r, _, _ := Open(b, 0); return [][]byte{r} },
		"OpenAll": func(b []byte) [][]byte { r, _ := OpenAll(b); return r },
		"Unwrap":  func(b []byte) [][]byte { r, _ := Unwrap(b); return [][]byte{r} },
	}
	for name, call := range calls {
		for _, b := range [][]byte{plain, sealed, two, wrapped, plain[:5]} {
			given, whole := fenced(b)
			kept := bytes.Clone(whole)
			answers := call(given)
			if !bytes.Equal(whole, kept) {
				t.Errorf("%s changed what it was handed", name)
			}
			want := make([][]byte, len(answers))
			for i := range answers {
				want[i] = bytes.Clone(answers[i])
			}
			for i := range answers {
				if !bytes.Equal(answers[i], want[i]) {
					t.Errorf("%s: two answers share memory", name)
				}
				spoil(answers[i])
			}
			if !bytes.Equal(whole, kept) {
				t.Errorf("%s answered memory that it was handed", name)
			}
		}
	}
}
