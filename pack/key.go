package pack

import "cmp"

// Compare: the order of keys.
func Compare(a, b []byte) int {
	for i := range min(len(a), len(b)) {
		if a[i] != b[i] {
			return cmp.Compare(a[i], b[i])
		}
	}
	return cmp.Compare(len(a), len(b))
}

// In: is a key between two others?
func In(key, from, to []byte) bool {
	return Compare(key, from) >= 0 && (len(to) == 0 || Compare(key, to) < 0)
}

// After: the least key above one.
func After(key []byte) []byte {
	// The last byte is never written: it is the 0 behind.
	out := make([]byte, len(key)+1)
	copy(out, key)
	return out
}
