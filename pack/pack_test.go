package pack

import (
	"bytes"
	"math"
	"slices"
	"testing"

	"groyne/api"
)

// edges: numbers on both sides of every length.
func edges() []uint64 {
	list := []uint64{0, 1, 2, 127, 128, 246, 247, 248, 249, 254, 255, 256, 257, 70000, math.MaxInt64, math.MaxUint64}
	for bit := range 64 {
		n := uint64(1) << bit
		list = append(list, n-1, n, n+1)
	}
	return list
}

func TestNumberForm(t *testing.T) {
	for _, c := range []struct {
		list []uint64
		want []byte
	}{
		{nil, nil},
		{[]uint64{5, 247, 248, 70000}, []byte{5, 247, 248, 248, 250, 1, 17, 112}},
		{[]uint64{0}, []byte{0}},
		{[]uint64{255, 256}, []byte{248, 255, 249, 1, 0}},
		{[]uint64{65535, 65536}, []byte{249, 255, 255, 250, 1, 0, 0}},
		{[]uint64{1 << 24, 1 << 32, 1 << 40}, []byte{251, 1, 0, 0, 0, 252, 1, 0, 0, 0, 0, 253, 1, 0, 0, 0, 0, 0}},
		{[]uint64{1 << 48}, []byte{254, 1, 0, 0, 0, 0, 0, 0}},
		{[]uint64{1 << 56}, []byte{255, 1, 0, 0, 0, 0, 0, 0, 0}},
		{[]uint64{math.MaxUint64}, []byte{255, 255, 255, 255, 255, 255, 255, 255, 255}},
	} {
		if b := Number(c.list...); !bytes.Equal(b, c.want) {
			t.Errorf("P1.1: Number(%v) = %v, want %v", c.list, b, c.want)
		}
	}
}

func TestTakeUndoesNumber(t *testing.T) {
	list := edges()
	b := Number(list...)
	at := 0
	for _, want := range list {
		n, behind, e := Take(b, at)
		if n != want || behind != at+len(Number(want)) || e != api.OK {
			t.Fatalf("P1.1: Take at %d = %d, %d, %v, want %d", at, n, behind, e, want)
		}
		at = behind
	}
	if at != len(b) {
		t.Errorf("P1.1: %d of %d bytes were taken", at, len(b))
	}
}

func TestTakeErrors(t *testing.T) {
	for _, c := range []struct {
		b    []byte
		at   int
		want api.Errno
	}{
		{[]byte{248, 7}, 0, api.ErrForm},
		{[]byte{248, 0}, 0, api.ErrForm},
		{[]byte{248, 247}, 0, api.ErrForm},
		{[]byte{249, 0, 255}, 0, api.ErrForm},
		{[]byte{255, 0, 255, 255, 255, 255, 255, 255, 255}, 0, api.ErrForm},
		{[]byte{255, 0, 0, 0, 0, 0, 0, 0, 0}, 0, api.ErrForm},
		{[]byte{250, 1}, 0, api.ErrEnd},
		{[]byte{249, 0}, 0, api.ErrEnd}, // the form is asked when all bytes are there
		{[]byte{248}, 0, api.ErrEnd},
		{[]byte{255, 1, 2, 3, 4, 5, 6, 7}, 0, api.ErrEnd},
		{[]byte{9}, 1, api.ErrEnd},
		{nil, 0, api.ErrEnd},
		{nil, 1, api.ErrArg},
		{nil, -1, api.ErrArg},
		{[]byte{9}, 2, api.ErrArg},
		{[]byte{9}, -1, api.ErrArg},
		{[]byte{9}, math.MinInt, api.ErrArg},
		{[]byte{9}, math.MaxInt, api.ErrArg},
	} {
		if n, behind, e := Take(c.b, c.at); n != 0 || behind != 0 || e != c.want {
			t.Errorf("P1.1: Take(%v, %d) = %d, %d, %v, want %v", c.b, c.at, n, behind, e, c.want)
		}
	}
	if n, behind, e := Take([]byte{248, 248}, 0); n != 248 || behind != 2 || e != api.OK {
		t.Errorf("P1.1: the least number of two bytes: %d, %d, %v", n, behind, e)
	}
	if n, behind, e := Take([]byte{0, 9, 249, 1, 0, 9}, 2); n != 256 || behind != 5 || e != api.OK {
		t.Errorf("P1.1: a number in the midst: %d, %d, %v", n, behind, e)
	}
}

// TestTakeShortestAlone: whatever is taken is the Number of what came out.
func TestTakeShortestAlone(t *testing.T) {
	for first := range 256 {
		for _, fill := range []byte{0, 1, 247, 248, 255} {
			for _, second := range []byte{0, 1, 247, 248, 255} {
				b := append([]byte{byte(first), second}, bytes.Repeat([]byte{fill}, 8)...)
				n, behind, e := Take(b, 0)
				if e == api.OK && !bytes.Equal(b[:behind], Number(n)) {
					t.Errorf("P1.1: Take(%v) = %d, %d: not the shortest form", b, n, behind)
				}
			}
		}
	}
}

func TestJoinForm(t *testing.T) {
	long := bytes.Repeat([]byte{9}, 300)
	for _, c := range []struct {
		parts [][]byte
		want  []byte
	}{
		{nil, []byte{0}},
		{[][]byte{{7}, nil}, []byte{2, 1, 7, 0}},
		{[][]byte{{}}, []byte{1, 0}},
		{[][]byte{long}, append([]byte{1, 249, 1, 44}, long...)},
	} {
		b := Join(c.parts...)
		if !bytes.Equal(b, c.want) {
			t.Errorf("P1.2: Join(%v) = %v, want %v", c.parts, b, c.want)
		}
		if parts, e := Split(b); e != api.OK || !slices.EqualFunc(parts, c.parts, bytes.Equal) {
			t.Errorf("P1.2: Split(%v) = %v, %v", b, parts, e)
		}
	}
	many := make([][]byte, 300)
	if parts, e := Split(Join(many...)); e != api.OK || len(parts) != 300 {
		t.Errorf("P1.2: many parts: %d, %v", len(parts), e)
	}
}

func TestSplitErrors(t *testing.T) {
	for _, c := range []struct {
		b    []byte
		want api.Errno
	}{
		{nil, api.ErrEnd},
		{[]byte{}, api.ErrEnd},
		{[]byte{2, 1, 7}, api.ErrEnd},
		{[]byte{2, 1}, api.ErrEnd},
		{[]byte{1, 2, 7}, api.ErrEnd},
		{[]byte{0, 0}, api.ErrForm},
		{[]byte{1, 1, 7, 0}, api.ErrForm},
		{[]byte{248, 1, 0}, api.ErrForm},    // the count could be shorter
		{[]byte{2, 248, 1, 9}, api.ErrForm}, // a length could be shorter, ahead of the end
		{[]byte{2, 9, 248, 1}, api.ErrEnd},  // a part that isn't all there, ahead of what lies in it
		{[]byte{249, 1}, api.ErrEnd},        // the count isn't all there
		{[]byte{1, 250, 1}, api.ErrEnd},     // nor a length
		{append(Number(math.MaxUint64), 0, 0), api.ErrEnd},
		{append([]byte{1}, Number(math.MaxUint64)...), api.ErrEnd},
		{append([]byte{1}, Number(1<<63)...), api.ErrEnd},
	} {
		if parts, e := Split(c.b); e != c.want || len(parts) != 0 {
			t.Errorf("P1.2: Split(%v) = %v, %v, want %v", c.b, parts, e, c.want)
		}
	}
}

// everyBytes calls f with all lists of up to most bytes out of some.
func everyBytes(most int, of []byte, f func(b []byte)) {
	var grow func(b []byte)
	grow = func(b []byte) {
		f(slices.Clone(b))
		if len(b) == most {
			return
		}
		for _, c := range of {
			grow(append(slices.Clone(b), c))
		}
	}
	grow(nil)
}

func TestJoinUndoesSplit(t *testing.T) {
	taken := 0
	everyBytes(5, []byte{0, 1, 2, 3, 248, 249}, func(b []byte) {
		parts, e := Split(b)
		if e != api.OK {
			return
		}
		taken++
		if back := Join(parts...); !bytes.Equal(back, b) {
			t.Errorf("P1.2: Join(Split(%v)) = %v", b, back)
		}
	})
	if taken == 0 {
		t.Error("P1.2: nothing was split")
	}
}

func TestListsMemory(t *testing.T) {
	room := []byte{7, 8, 9, 9, 9}
	parts := [][]byte{room[:1], room[1:2]}
	b := Join(parts...)
	b[0], b[2] = 99, 99
	if !bytes.Equal(room, []byte{7, 8, 9, 9, 9}) || len(parts) != 2 {
		t.Errorf("P1.5: Join changed %v", room)
	}
	in := append(make([]byte, 0, 64), 3, 1, 7, 0, 1, 8)
	out, _ := Split(in)
	clear(in[:cap(in)])
	if !bytes.Equal(out[0], []byte{7}) || !bytes.Equal(out[2], []byte{8}) {
		t.Errorf("P1.5: Split's parts share memory with what was split: %v", out)
	}
	for i := range out {
		out[i] = append(out[i], bytes.Repeat([]byte{byte(i)}, 3)...)
	}
	if want := [][]byte{{7, 0, 0, 0}, {1, 1, 1}, {8, 2, 2, 2}}; !slices.EqualFunc(out, want, bytes.Equal) {
		t.Errorf("P1.5: Split's parts share spare room: %v", out)
	}
	if !bytes.Equal(in[:cap(in)], make([]byte, cap(in))) {
		t.Error("P1.5: Split's parts have spare room in what was split")
	}
	list := append(make([]uint64, 0, 4), 300, 2)
	n := Number(list...)
	clear(n[:cap(n)])
	if !slices.Equal(list[:4], []uint64{300, 2, 0, 0}) || !bytes.Equal(Number(list...), []byte{249, 1, 44, 2}) {
		t.Errorf("P1.5: Number's answer shares memory")
	}
}
