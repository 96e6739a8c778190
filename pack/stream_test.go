package pack

import (
	"bytes"
	"math"
	"testing"

	"groyne/api"
)

func TestWriterForm(t *testing.T) {
	var w Writer
	if w.Len() != 0 || len(w.Bytes()) != 0 {
		t.Errorf("P1.3: the zero Writer has %v", w.Bytes())
	}
	w.Num()
	w.Text()
	w.Flag()
	if w.Len() != 0 {
		t.Errorf("P1.3: nothing put is %v", w.Bytes())
	}
	w.Num(1, 300)
	w.Text([]byte("ab"), nil)
	w.Flag(true, false)
	w.Num(248)
	want := []byte{1, 249, 1, 44, 2, 'a', 'b', 0, 1, 0, 248, 248}
	if !bytes.Equal(w.Bytes(), want) || w.Len() != len(want) {
		t.Errorf("P1.3: written %v (%d), want %v", w.Bytes(), w.Len(), want)
	}
}

func TestReaderTakesWhatWasPut(t *testing.T) {
	long := bytes.Repeat([]byte{5}, 1000)
	var w Writer
	w.Num(edges()...)
	w.Text(nil, []byte{0}, long)
	w.Flag(false, true, true)
	r := Read(w.Bytes())
	if r.Left() != w.Len() {
		t.Errorf("P1.3: Left = %d at the beginning, want %d", r.Left(), w.Len())
	}
	for _, want := range edges() {
		if n := r.Num(); n != want {
			t.Errorf("P1.3: Num = %d, want %d", n, want)
		}
	}
	for _, want := range [][]byte{nil, {0}, long} {
		if b := r.Text(); !bytes.Equal(b, want) {
			t.Errorf("P1.3: Text = %v, want %v", b, want)
		}
	}
	if r.Left() != 3 || r.Close() != api.ErrForm || r.Err() != api.OK {
		t.Errorf("P1.3: ahead of the flags: Left %d, Close %v, Err %v", r.Left(), r.Close(), r.Err())
	}
	if r.Flag() || !r.Flag() || !r.Flag() {
		t.Error("P1.3: flags")
	}
	if r.Left() != 0 || r.Close() != api.OK || r.Err() != api.OK {
		t.Errorf("P1.3: at the end: Left %d, Close %v", r.Left(), r.Close())
	}
}

// Which call of a Reader meets the error.
const (
	num = iota
	text
	flag
)

func call(r *Reader, kind int) bool {
	switch kind {
	case num:
		return r.Num() == 0
	case text:
		return len(r.Text()) == 0
	}
	return !r.Flag()
}

func TestReaderErrors(t *testing.T) {
	for _, c := range []struct {
		b    []byte
		kind int
		want api.Errno
	}{
		{nil, num, api.ErrEnd},
		{nil, text, api.ErrEnd},
		{nil, flag, api.ErrEnd},
		{[]byte{249, 1}, num, api.ErrEnd},
		{[]byte{248, 7}, num, api.ErrForm},
		{[]byte{249, 1}, text, api.ErrEnd},
		{[]byte{248, 7, 1, 1, 1, 1, 1, 1, 1}, text, api.ErrForm},
		{[]byte{3, 1, 1}, text, api.ErrEnd},
		{append(Number(math.MaxUint64), 1, 1), text, api.ErrEnd},
		{append(Number(1<<63), 1, 1), text, api.ErrEnd},
		{[]byte{2, 0}, flag, api.ErrForm},
		{[]byte{255}, flag, api.ErrForm},
	} {
		r := Read(c.b)
		if !call(r, c.kind) || r.Err() != c.want || r.Close() != c.want || r.Left() != len(c.b) {
			t.Errorf("P1.3: %v, call %d: Err %v, Close %v, Left %d, want %v", c.b, c.kind, r.Err(), r.Close(), r.Left(), c.want)
		}
	}
}

func TestReaderStopsAtFirstError(t *testing.T) {
	r := Read([]byte{3, 9})
	if r.Num() != 3 || r.Flag() || r.Err() != api.ErrForm || r.Left() != 1 {
		t.Errorf("P1.3: the chapter's example: Err %v, Left %d", r.Err(), r.Left())
	}
	for first, b := range [][]byte{num: {248, 0, 1, 1}, text: {1}, flag: {2, 9, 9}} {
		r := Read(b)
		call(r, first)
		e := r.Err()
		if e == api.OK {
			t.Fatalf("P1.3: call %d met no error", first)
		}
		for kind := range 3 {
			if !call(r, kind) || r.Err() != e || r.Left() != len(b) {
				t.Errorf("P1.3: call %d behind an error of %d: Err %v, Left %d", kind, first, r.Err(), r.Left())
			}
		}
	}
}

func TestZeroReader(t *testing.T) {
	var r Reader
	if r.Left() != 0 || r.Err() != api.OK || r.Close() != api.OK {
		t.Errorf("P1.3: the zero Reader: Left %d, Err %v", r.Left(), r.Err())
	}
	if r.Num() != 0 || r.Err() != api.ErrEnd {
		t.Errorf("P1.3: the zero Reader has a number, Err %v", r.Err())
	}
}

func TestReaderOfWhateverBytes(t *testing.T) {
	everyBytes(4, []byte{0, 1, 2, 247, 248, 255}, func(b []byte) {
		for kinds := range 27 {
			r := Read(b)
			left := len(b)
			for _, kind := range []int{kinds % 3, kinds / 3 % 3, kinds / 9} {
				call(r, kind)
				if r.Left() > left || r.Err() == api.OK && r.Left() == left {
					t.Errorf("P1.3: %v, calls %d: Left %d behind %d", b, kinds, r.Left(), left)
				}
				left = r.Left()
			}
		}
	})
}

func TestStreamMemory(t *testing.T) {
	var w Writer
	in := append(make([]byte, 0, 16), 1, 2, 3)
	w.Text(in)
	clear(in)
	first := w.Bytes()
	second := w.Bytes()
	clear(first[:cap(first)])
	_ = append(second, 99)
	w.Num(4)
	if !bytes.Equal(w.Bytes(), []byte{3, 1, 2, 3, 4}) || !bytes.Equal(second, []byte{3, 1, 2, 3}) {
		t.Errorf("P1.5: a Writer shares memory: %v, %v", w.Bytes(), second)
	}
	if !bytes.Equal(in[:cap(in)], make([]byte, cap(in))) {
		t.Errorf("P1.5: a Writer changed what it was handed: %v", in[:cap(in)])
	}
	b := []byte{2, 7, 8, 1, 9, 1}
	r := Read(b)
	clear(b)
	one := r.Text()
	_ = append(one, 99, 99, 99)
	clear(one)
	two := r.Text()
	if !bytes.Equal(two, []byte{9}) || !r.Flag() || r.Close() != api.OK {
		t.Errorf("P1.5: a Reader shares memory: %v, %v", two, r.Err())
	}
	if !bytes.Equal(b, make([]byte, 6)) {
		t.Errorf("P1.5: a Reader's texts lie in what was read: %v", b)
	}
}
