package parity

const (
	cellSize  = 251 // so that a cell with its check bytes has at most 255: there any four changes are told
	checkSize = 4
)

// A cell is 0 at 1, 2, 4 and 8 just if (x-1)(x-2)(x-4)(x-8) = x^4 + 15x^3 + 54x^2 + 120x + 64 divides it.
// The tables hold the products of 15, 54, 120 and 64, as one word, with each low half of a byte and with each high one:
// two of them make the product with any byte.
var (
	lowProducts = [16]uint32{
		0x00000000, 0x0f367840, 0x1e6cf080, 0x115a88c0,
		0x3cd8fd1d, 0x33ee855d, 0x22b40d9d, 0x2d8275dd,
		0x78ade73a, 0x779b9f7a, 0x66c117ba, 0x69f76ffa,
		0x44751a27, 0x4b436267, 0x5a19eaa7, 0x552f92e7,
	}
	highProducts = [16]uint32{
		0x00000000, 0xf047d374, 0xfd8ebbe8, 0x0dc9689c,
		0xe7016bcd, 0x1746b8b9, 0x1a8fd025, 0xeac80351,
		0xd302d687, 0x234505f3, 0x2e8c6d6f, 0xdecbbe1b,
		0x3403bd4a, 0xc4446e3e, 0xc98d06a2, 0x39cad5d6,
	}
)

// Check answers the check bytes of the lists, joined.
func Check(cell ...[]byte) [4]byte {
	rest := uint32(0)
	for _, part := range cell {
		rest = divide(rest, part)
	}
	return bigEnd(rest)
}

// divide goes on with a division that left rest so far.
func divide(rest uint32, b []byte) uint32 {
	for _, x := range b {
		factor := x ^ byte(rest>>24)
		rest = rest<<8 ^ lowProducts[factor&15] ^ highProducts[factor>>4]
	}
	return rest
}

func bigEnd(n uint32) [4]byte {
	return [4]byte{byte(n >> 24), byte(n >> 16), byte(n >> 8), byte(n)}
}

// Good tells whether b ends with the check bytes of what is ahead of them.
func Good(b []byte) bool {
	end := len(b) - checkSize
	return end >= 0 && Check(b[:end]) == [4]byte(b[end:])
}
