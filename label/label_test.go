package label

import (
	"strings"
	"testing"
)

// everyText calls f with all texts of up to most bytes out of some.
func everyText(most int, of string, f func(s string)) {
	var grow func(s string)
	grow = func(s string) {
		f(s)
		if len(s) == most {
			return
		}
		for i := range len(of) {
			grow(s + of[i:i+1])
		}
	}
	grow("")
}

func TestValid(t *testing.T) {
	for _, s := range []string{"b-1", "a", "z", "a-", "a--", "a0", "a9", "az", "abcdefghijklmnop", "a-0123456789-xyz"} {
		if !Valid(s) {
			t.Errorf("P2.1: Valid(%q) = false", s)
		}
	}
	for _, s := range []string{"", "1b", "B", "-", "-a", "aB", "a b", "a_b", "a\x00", "a\x80", "a/", "a:", "a`", "a{", "`", "{", "ä", "abcdefghijklmnopq", "a.", "a,"} {
		if Valid(s) {
			t.Errorf("P2.1: Valid(%q) = true", s)
		}
	}
	for c := range 256 {
		letter := c >= 'a' && c <= 'z'
		if s := string([]byte{byte(c)}); Valid(s) != letter {
			t.Errorf("P2.1: Valid(%q) = %v", s, Valid(s))
		}
		if s := string([]byte{'a', byte(c)}); Valid(s) != (letter || c >= '0' && c <= '9' || c == 45) {
			t.Errorf("P2.1: Valid(%q) = %v", s, Valid(s))
		}
	}
}

func TestNext(t *testing.T) {
	for _, c := range []struct{ s, want string }{
		{"b9", "b10"}, {"b", "b-2"}, {"b-009", "b-010"}, {"b0", "b1"}, {"b00", "b01"}, {"b099", "b100"}, {"b999", "b1000"},
		{"b1-", "b1--2"}, {"b-", "b--2"}, {"b1c", "b1c-2"}, {"b1c19", "b1c20"}, {"b-2", "b-3"},
		{"a99999999999999", "a100000000000000"}, {"a899999999999999", "a900000000000000"},
		{"abcdefghijklmn", "abcdefghijklmn-2"}, {"abcdefghijklmno8", "abcdefghijklmno9"},
	} {
		if got, ok := Next(c.s); got != c.want || !ok {
			t.Errorf("P2.1: Next(%q) = %q, %v, want %q", c.s, got, ok, c.want)
		}
	}
	for _, s := range []string{"", "9", "B", "b 1", "-1", "b\x001", "abcdefghijklmno9", "abcdefghijklmno", "abcdefghijklmnop", "a999999999999999", "abcdefghijklmnopq1"} {
		if got, ok := Next(s); got != "" || ok {
			t.Errorf("P2.1: Next(%q) = %q, %v", s, got, ok)
		}
	}
}

func TestNextStandsBehind(t *testing.T) {
	everyText(5, "a-019", func(s string) {
		for _, s := range []string{s, strings.Repeat("a", 11) + s} {
			next, ok := Next(s)
			if !ok {
				continue
			}
			if !Valid(next) || Compare(s, next) != -1 || len(next) < len(s) {
				t.Errorf("P2.1: Next(%q) = %q", s, next)
			}
		}
	})
}
