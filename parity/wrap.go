package parity

import "groyne/api"

const pieceSize = 4096

// Wrap answers any bytes as records of pieces of one size, and of the rest, which tells the end by being shorter.
func Wrap(b []byte) []byte {
	pieces := len(b) / pieceSize
	wrapped := make([]byte, 0, pieces*Sealed(pieceSize)+Sealed(len(b)%pieceSize))
	for len(b) >= pieceSize {
		wrapped = appendRecord(wrapped, b[:pieceSize])
		b = b[pieceSize:]
	}
	return appendRecord(wrapped, b)
}

// Unwrap answers the bytes that were wrapped so.
func Unwrap(b []byte) ([]byte, api.Errno) {
	var all []byte
	at := 0
	for {
		piece, next, e := Open(b, at)
		if e != api.OK {
			return nil, e
		}
		all = append(all, piece...)
		at = next
		if len(piece) < pieceSize {
			break
		}
	}
	if at < len(b) {
		return nil, api.ErrForm
	}
	return all, api.OK
}
