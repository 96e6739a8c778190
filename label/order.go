package label

import (
	"cmp"
	"slices"
	"strings"
)

// Compare: how two texts compare, their numbers as numbers.
func Compare(a, b string) int {
	x, y := a, b
	for x != "" && y != "" {
		p, q := firstPiece(x), firstPiece(y)
		if c := comparePieces(p, q); c != 0 {
			return c
		}
		x, y = x[len(p):], y[len(q):]
	}
	if x != "" {
		return 1
	}
	if y != "" {
		return -1
	}
	return strings.Compare(a, b)
}

// firstPiece: the run of digits that a text begins with, or its first byte; the text isn't empty.
func firstPiece(s string) string {
	for i := range len(s) {
		if !isDigit(s[i]) {
			return s[:max(i, 1)]
		}
	}
	return s
}

func comparePieces(p, q string) int {
	if !isDigit(p[0]) || !isDigit(q[0]) {
		return cmp.Compare(p[0], q[0])
	}
	p, q = strings.TrimLeft(p, "0"), strings.TrimLeft(q, "0")
	// Without noughts ahead the longer run is the greater number, however long it is.
	if len(p) != len(q) {
		return cmp.Compare(len(p), len(q))
	}
	return strings.Compare(p, q)
}

// Pick: those that match, in order.
func Pick(pattern string, names ...string) []string {
	var out []string
	for _, name := range names {
		if Match(name, pattern) {
			out = append(out, name)
		}
	}
	// Compare calls no two texts alike that differ, so the order hangs on the texts alone.
	slices.SortFunc(out, Compare)
	return slices.Compact(out)
}

// Latest: the last one in order.
func Latest(names ...string) (string, bool) {
	if len(names) == 0 {
		return "", false
	}
	return slices.MaxFunc(names, Compare), true
}
