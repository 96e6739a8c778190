package vault

import (
	"strconv"
	"strings"
)

const digits = 16

// Number: sixteen hexadecimal digits.
func Number(n uint64) string {
	text := strconv.FormatUint(n, 16)
	return strings.Repeat("0", digits-len(text)) + text
}

// ToNumber: and back.
func ToNumber(s string) (uint64, bool) {
	n, err := strconv.ParseUint(s, 16, 64)
	// Capital digits, or too few, are a number to strconv too.
	if err != nil || Number(n) != s {
		return 0, false
	}
	return n, true
}
