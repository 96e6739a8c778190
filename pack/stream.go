package pack

import (
	"bytes"

	"groyne/api"
)

// Writer puts numbers, texts and flags.
type Writer struct {
	done []byte
}

// Num: numbers.
func (w *Writer) Num(list ...uint64) {
	for _, n := range list {
		w.done = appendNumber(w.done, n)
	}
}

// Text: texts.
func (w *Writer) Text(list ...[]byte) {
	for _, text := range list {
		w.done = appendNumber(w.done, uint64(len(text)))
		w.done = append(w.done, text...)
	}
}

// Flag: flags.
func (w *Writer) Flag(list ...bool) {
	for _, flag := range list {
		var b byte
		if flag {
			b = 1
		}
		w.done = append(w.done, b)
	}
}

// Bytes: all that was put.
func (w *Writer) Bytes() []byte { return bytes.Clone(w.done) }

// Len: how many bytes that are.
func (w *Writer) Len() int { return len(w.done) }

// Reader takes them.
type Reader struct {
	rest []byte
	err  api.Errno
}

// Read: one that takes from bytes.
func Read(b []byte) *Reader {
	// A copy, so that a later change of b doesn't show.
	return &Reader{rest: bytes.Clone(b)}
}

// Num: a number.
func (r *Reader) Num() uint64 {
	if r.err != api.OK {
		return 0
	}
	n, behind, e := Take(r.rest, 0)
	if e != api.OK {
		r.err = e
		return 0
	}
	r.rest = r.rest[behind:]
	return n
}

// Text: a text.
func (r *Reader) Text() []byte {
	if r.err != api.OK {
		return nil
	}
	n, from, e := Take(r.rest, 0)
	// The length is held against what is left as it came: as an int it might wrap round.
	if e == api.OK && n > uint64(len(r.rest)-from) {
		e = api.ErrEnd
	}
	if e != api.OK {
		r.err = e
		return nil
	}
	to := from + int(n)
	text := bytes.Clone(r.rest[from:to])
	r.rest = r.rest[to:]
	return text
}

// Flag: a flag.
func (r *Reader) Flag() bool {
	if r.err != api.OK {
		return false
	}
	if len(r.rest) == 0 {
		r.err = api.ErrEnd
		return false
	}
	b := r.rest[0]
	if b > 1 {
		r.err = api.ErrForm
		return false
	}
	r.rest = r.rest[1:]
	return b == 1
}

// Left: how many bytes it hasn't taken.
func (r *Reader) Left() int { return len(r.rest) }

// Err: its first error.
func (r *Reader) Err() api.Errno { return r.err }

// Close: that, or that bytes are left.
func (r *Reader) Close() api.Errno {
	if r.err == api.OK && len(r.rest) > 0 {
		return api.ErrForm
	}
	return r.err
}
