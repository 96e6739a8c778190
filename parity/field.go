// Package parity is layer 3: bytes in cells with check bytes that tell every change of a few of them, and records that are sealed so.
package parity

const (
	reducer = 0x1d // x^8, reduced: x^4 + x^3 + x^2 + 1
	powers  = 255  // the powers of 2 come round after so many
)

// Mul answers the product of two elements of the field.
func Mul(a, b byte) byte {
	product := byte(0)
	for ; b != 0; b >>= 1 {
		if b&1 != 0 {
			product ^= a
		}
		a = double(a)
	}
	return product
}

func double(a byte) byte {
	if a&0x80 != 0 {
		return a<<1 ^ reducer
	}
	return a << 1
}

// Pow answers 2 times itself n times; n counts modulo 255.
func Pow(n int) byte {
	n %= powers
	if n < 0 {
		n += powers
	}
	power := byte(1)
	for range n {
		power = double(power)
	}
	return power
}
