package parity

import "groyne/api"

const headSize = 4 + checkSize

// Seal answers the record of b.
func Seal(b []byte) ([]byte, api.Errno) {
	if len(b) > api.MaxRecord {
		return nil, api.ErrSize
	}
	return appendRecord(make([]byte, 0, Sealed(len(b))), b), api.OK
}

func appendRecord(to, b []byte) []byte {
	length := bigEnd(uint32(len(b)))
	to = appendCell(to, length[:])
	for len(b) > 0 {
		size := min(len(b), cellSize)
		to = appendCell(to, b[:size])
		b = b[size:]
	}
	return to
}

func appendCell(to, b []byte) []byte {
	check := Check(b)
	to = append(to, b...)
	return append(to, check[:]...)
}

// Sealed answers how many bytes the record of n bytes has.
func Sealed(n int) int {
	if n < 0 || n > api.MaxRecord {
		return 0
	}
	cells := (n + cellSize - 1) / cellSize
	return headSize + n + cells*checkSize
}

// Open answers what is sealed in the record that begins at a place, and the place behind it.
func Open(b []byte, at int) ([]byte, int, api.Errno) {
	if at < 0 || at > len(b) {
		return nil, 0, api.ErrArg
	}
	head, e := cellAt(b, at, headSize-checkSize)
	if e != api.OK {
		return nil, 0, e
	}
	length := uint32(head[0])<<24 | uint32(head[1])<<16 | uint32(head[2])<<8 | uint32(head[3])
	if length > api.MaxRecord {
		return nil, 0, api.ErrSize
	}
	at += headSize
	// A record may say more than is there: only what is there needs room.
	sealed := make([]byte, 0, min(int(length), len(b)-at))
	for left := int(length); left > 0; {
		cell, e := cellAt(b, at, min(left, cellSize))
		if e != api.OK {
			return nil, 0, e
		}
		sealed = append(sealed, cell...)
		left -= len(cell)
		at += len(cell) + checkSize
	}
	return sealed, at, api.OK
}

// cellAt answers the bytes of the cell at a place, which has size of them ahead of its check bytes.
func cellAt(b []byte, at, size int) ([]byte, api.Errno) {
	if len(b)-at < size+checkSize {
		return nil, api.ErrEnd
	}
	if !Good(b[at : at+size+checkSize]) {
		return nil, api.ErrSum
	}
	return b[at : at+size], api.OK
}

// OpenAll answers what is sealed in the records up to the first that doesn't open, and that one's place.
func OpenAll(b []byte) ([][]byte, int) {
	var all [][]byte
	at := 0
	for {
		sealed, next, e := Open(b, at)
		if e != api.OK {
			return all, at
		}
		all = append(all, sealed)
		at = next
	}
}
