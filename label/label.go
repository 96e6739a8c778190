// Package label is layer 2: names, their order and patterns, and bytes as plain text. See shared/doc/02-label.md.
package label

import (
	"strings"

	"groyne/api"
)

// Valid: is it a name?
func Valid(s string) bool {
	if len(s) == 0 || len(s) > api.MaxName || !isLetter(s[0]) {
		return false
	}
	for i := range len(s) {
		if !isLetter(s[i]) && !isDigit(s[i]) && s[i] != '-' {
			return false
		}
	}
	return true
}

func isLetter(c byte) bool { return c >= 'a' && c <= 'z' }

func isDigit(c byte) bool { return c >= '0' && c <= '9' }

// Next: the name behind a name.
func Next(s string) (string, bool) {
	if !Valid(s) {
		return "", false
	}
	stem := strings.TrimRight(s, "0123456789")
	next := stem + "-2"
	if run := s[len(stem):]; run != "" {
		next = stem + oneMore(run)
	}
	if !Valid(next) {
		return "", false
	}
	return next, true
}

// oneMore counts in the digits themselves, so that noughts ahead stay.
func oneMore(run string) string {
	out := []byte(run)
	for i := range len(out) {
		at := len(out) - 1 - i
		if out[at] != '9' {
			out[at]++
			return string(out)
		}
		out[at] = '0'
	}
	return "1" + string(out)
}
