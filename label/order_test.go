package label

import (
	"slices"
	"strings"
	"testing"
)

func TestCompareExamples(t *testing.T) {
	long := strings.Repeat("9", 40)
	for _, c := range []struct{ less, more string }{
		{"b9", "b10"}, {"b09", "b9"}, {"b", "b1"}, {"b-1", "b1"}, {"", "a"}, {"", "0"},
		{"b10a", "b10b"}, {"b010a", "b10b"}, {"b9z", "b10a"}, {"a0", "a00"}, {"a00", "a1"}, {"a0", "a1"},
		{"x1y002", "x01y3"}, {"x01y2", "x1y2"}, {"9", "10"}, {"9", "a"}, {"/", "9"}, {"9", ":"}, {"10", ":"},
		{"a" + long, "a1" + strings.Repeat("0", 40)}, {"a" + long[1:] + "8", "a" + long}, {"18446744073709551616", "18446744073709551617"},
		{"a0018446744073709551616", "a18446744073709551617"}, {"a5b", "a05c"}, {"a1b", "a1bc"},
		{"A", "a"}, {"a", "\x80"}, {"\x7f", "\xff"}, {"a\x00", "a1"}, {"0001", "1"}, {"a1", "aa"}, {"a", "b1"},
	} {
		if Compare(c.less, c.more) != -1 || Compare(c.more, c.less) != 1 {
			t.Errorf("P2.2: Compare(%q, %q) = %d and %d", c.less, c.more, Compare(c.less, c.more), Compare(c.more, c.less))
		}
	}
}

func TestCompareIsAnOrder(t *testing.T) {
	var all []string
	everyText(3, "01a-9", func(s string) { all = append(all, s) })
	for _, a := range all {
		for _, b := range all {
			c := Compare(a, b)
			if c < -1 || c > 1 || c != -Compare(b, a) || (c == 0) != (a == b) {
				t.Fatalf("P2.2: Compare(%q, %q) = %d, and back %d", a, b, c, Compare(b, a))
			}
		}
	}
	// Whatever the sorting looked at, each stands behind all those ahead of it: so no three go round.
	slices.SortFunc(all, Compare)
	for i, a := range all {
		for _, b := range all[i+1:] {
			if Compare(a, b) != -1 {
				t.Fatalf("P2.2: %q is sorted ahead of %q", a, b)
			}
		}
	}
}

func TestPick(t *testing.T) {
	for _, c := range []struct {
		pattern     string
		names, want []string
	}{
		{"b*", []string{"b10", "b9", "c", "b9"}, []string{"b9", "b10"}},
		{"*", nil, nil},
		{"x", []string{"b10", "b9"}, nil},
		{"*", []string{"b", "", "10", "9", "09", "b", ""}, []string{"", "09", "9", "10", "b"}},
		{"", []string{"", "a", ""}, []string{""}},
		{"b?", []string{"b10", "b9", "b1", "b"}, []string{"b1", "b9"}},
		{"b09", []string{"b9", "b09"}, []string{"b09"}},
	} {
		if got := Pick(c.pattern, c.names...); !slices.Equal(got, c.want) {
			t.Errorf("P2.3: Pick(%q, %q) = %q, want %q", c.pattern, c.names, got, c.want)
		}
	}
}

func TestPickMemory(t *testing.T) {
	room := []string{"b10", "b9", "b10", "kept"}
	got := Pick("*", room[:3]...)
	clear(got[:cap(got)])
	if !slices.Equal(room, []string{"b10", "b9", "b10", "kept"}) {
		t.Errorf("P2.3: Pick changed what it was handed: %q", room)
	}
}

func TestLatest(t *testing.T) {
	for _, c := range []struct {
		names []string
		want  string
		ok    bool
	}{
		{nil, "", false},
		{[]string{""}, "", true},
		{[]string{"b9", "b10", "b09"}, "b10", true},
		{[]string{"b10", "b9"}, "b10", true},
		{[]string{"b09", "b9", ""}, "b9", true},
		{[]string{"a", "a"}, "a", true},
	} {
		if got, ok := Latest(c.names...); got != c.want || ok != c.ok {
			t.Errorf("P2.3: Latest(%q) = %q, %v", c.names, got, ok)
		}
	}
}
