package label

import (
	"strings"
	"testing"
)

func TestMatchExamples(t *testing.T) {
	for _, c := range []struct {
		s, pattern string
		want       bool
	}{
		{"nightly-7", "night*-?", true}, {"", "*", true}, {"a", "", false}, {"", "", true}, {"", "?", false}, {"", "**", true}, {"", "*?*", false},
		{"abab", "*ab", true}, {"aba", "*ab", false}, {"ab", "a", false}, {"a", "ab", false}, {"ab", "b", false},
		{"a*b", "a*b", true}, {"axxb", "a*b", true}, {"ab", "a?b", false}, {"a?b", "a?b", true}, {"*", "?", true}, {"x", "\\x", false},
		{"\xff\x00", "??", true}, {"ä", "?", false}, {"ä", "??", true}, {"a\xffb", "a*b", true}, {"[a]", "[a]", true}, {"a", "[a]", false},
		{"A", "a", false}, {"aXbXc", "a*X?", true}, {"mississippi", "m*iss*ip*i", true}, {"mississippi", "m*iss*ss*iss*", false},
	} {
		if got := Match(c.s, c.pattern); got != c.want {
			t.Errorf("P2.3: Match(%q, %q) = %v", c.s, c.pattern, got)
		}
	}
}

// plainMatch says it as the chapter does, trying all that a * may stand for.
func plainMatch(s, pattern string) bool {
	if pattern == "" {
		return s == ""
	}
	if pattern[0] == '*' {
		return plainMatch(s, pattern[1:]) || s != "" && plainMatch(s[1:], pattern)
	}
	return s != "" && (pattern[0] == '?' || pattern[0] == s[0]) && plainMatch(s[1:], pattern[1:])
}

func TestMatchAsToldPlainly(t *testing.T) {
	everyText(5, "ab*", func(s string) {
		everyText(4, "ab*?", func(pattern string) {
			if Match(s, pattern) != plainMatch(s, pattern) {
				t.Errorf("P2.3: Match(%q, %q) = %v", s, pattern, Match(s, pattern))
			}
		})
	})
}

func TestMatchEndsSoon(t *testing.T) {
	if Match(strings.Repeat("a", 2000), strings.Repeat("a*", 500)+"b") {
		t.Error("P2.3: a b is matched where there is none")
	}
}
