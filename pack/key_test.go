package pack

import (
	"bytes"
	"testing"
)

func TestCompare(t *testing.T) {
	for _, c := range []struct {
		a, b string
		want int
	}{
		{"", "", 0}, {"", "\x00", -1}, {"a", "a", 0}, {"a", "b", -1}, {"ab", "b", -1}, {"a", "aa", -1},
		{"a", "a\x00", -1}, {"b", "ab", 1}, {"\xff", "\x7f", 1}, {"abc", "abd", -1}, {"\xff\xff", "\xff", 1},
	} {
		if got := Compare([]byte(c.a), []byte(c.b)); got != c.want {
			t.Errorf("P1.4: Compare(%q, %q) = %d, want %d", c.a, c.b, got, c.want)
		}
		if got := Compare([]byte(c.b), []byte(c.a)); got != -c.want {
			t.Errorf("P1.4: Compare(%q, %q) = %d, want %d", c.b, c.a, got, -c.want)
		}
	}
	if Compare(nil, []byte{}) != 0 {
		t.Error("P1.4: nil is not the same as none")
	}
	some := []byte{0, 1, 128, 255}
	everyBytes(3, some, func(a []byte) {
		everyBytes(3, some, func(b []byte) {
			if got := Compare(a, b); got != bytes.Compare(a, b) {
				t.Errorf("P1.4: Compare(%v, %v) = %d", a, b, got)
			}
		})
	})
}

func TestIn(t *testing.T) {
	for _, c := range []struct {
		key, from, to string
		want          bool
	}{
		{"b", "a", "b", false}, {"b", "b", "", true}, {"b", "b", "c", true}, {"b", "b", "b", false},
		{"b", "b", "b\x00", true}, {"a", "b", "", false}, {"b", "", "", true}, {"", "", "", true},
		{"", "", "a", true}, {"", "a", "", false}, {"b", "c", "a", false}, {"b", "", "a", false},
	} {
		if got := In([]byte(c.key), []byte(c.from), []byte(c.to)); got != c.want {
			t.Errorf("P1.4: In(%q, %q, %q) = %v", c.key, c.from, c.to, got)
		}
	}
	if !In([]byte("b"), nil, nil) || !In(nil, []byte{}, []byte{}) {
		t.Error("P1.4: an empty end is no end")
	}
}

func TestAfter(t *testing.T) {
	some := []byte{0, 1, 255}
	everyBytes(3, some, func(key []byte) {
		after := After(key)
		if len(after) != len(key)+1 || !bytes.HasPrefix(after, key) || after[len(key)] != 0 {
			t.Errorf("P1.4: After(%v) = %v", key, after)
		}
		if Compare(key, after) != -1 {
			t.Errorf("P1.4: After(%v) isn't above it", key)
		}
		everyBytes(3, some, func(other []byte) {
			if Compare(other, key) > 0 && Compare(other, after) < 0 {
				t.Errorf("P1.4: %v is above %v and below its After", other, key)
			}
		})
	})
}

func TestAfterMemory(t *testing.T) {
	room := []byte{1, 2, 3, 4}
	after := After(room[:2])
	clear(after[:cap(after)])
	if !bytes.Equal(room, []byte{1, 2, 3, 4}) {
		t.Errorf("P1.5: After changed what it was handed: %v", room)
	}
}
