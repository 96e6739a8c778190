// Package pack is layer 1: numbers, texts and flags as bytes, and the order of keys. See shared/doc/01-pack.md.
package pack

import (
	"math/bits"

	"groyne/api"
)

// oneByte is the greatest number that is a byte of its own; a first byte above it counts the bytes behind.
const oneByte = 247

// Number: numbers as bytes.
func Number(list ...uint64) []byte {
	var out []byte
	for _, n := range list {
		out = appendNumber(out, n)
	}
	return out
}

func appendNumber(out []byte, n uint64) []byte {
	if n <= oneByte {
		return append(out, byte(n))
	}
	var whole [8]byte
	for i := range len(whole) {
		whole[i] = byte(n >> (56 - 8*i))
	}
	k := digits(n)
	out = append(out, byte(oneByte+k))
	return append(out, whole[len(whole)-k:]...)
}

// digits: how many bytes a number needs at least, the greatest first.
func digits(n uint64) int {
	return (bits.Len64(n) + 7) / 8
}

// Take: the number at a place.
func Take(b []byte, at int) (uint64, int, api.Errno) {
	if at < 0 || at > len(b) {
		return 0, 0, api.ErrArg
	}
	if at == len(b) {
		return 0, 0, api.ErrEnd
	}
	first := int(b[at])
	if first <= oneByte {
		return uint64(first), at + 1, api.OK
	}
	k := first - oneByte
	from := at + 1
	if len(b)-from < k {
		return 0, 0, api.ErrEnd
	}
	var n uint64
	for i := range k {
		n = n<<8 | uint64(b[from+i])
	}
	if n <= oneByte || digits(n) < k {
		return 0, 0, api.ErrForm
	}
	return n, from + k, api.OK
}

// Join: parts as one list of bytes.
func Join(parts ...[]byte) []byte {
	var w Writer
	w.Num(uint64(len(parts)))
	w.Text(parts...)
	return w.done
}

// Split: and back.
func Split(b []byte) ([][]byte, api.Errno) {
	r := Reader{rest: b}
	var parts [][]byte
	for range r.Num() {
		part := r.Text()
		// The count may be far above what the bytes can hold, so the first error must end the loop.
		if r.err != api.OK {
			return nil, r.err
		}
		parts = append(parts, part)
	}
	if e := r.Close(); e != api.OK {
		return nil, e
	}
	return parts, api.OK
}
