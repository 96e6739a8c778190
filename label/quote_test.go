package label

import (
	"bytes"
	"testing"

	"groyne/api"
)

func TestQuote(t *testing.T) {
	for _, c := range []struct{ b, want string }{
		{"", `""`}, {"a\"\x00", `"a\"\x00"`}, {`\`, `"\\"`}, {" ~", `" ~"`}, {"\x1f\x7f", `"\x1f\x7f"`},
		{"\n\xab\xff", `"\x0a\xab\xff"`}, {"'x'", `"'x'"`}, {"ä", `"\xc3\xa4"`}, {`\x00`, `"\\x00"`},
	} {
		if got := Quote([]byte(c.b)); got != c.want {
			t.Errorf("P2.4: Quote(%q) = %s, want %s", c.b, got, c.want)
		}
	}
	if Quote(nil) != `""` {
		t.Error("P2.4: Quote of none")
	}
	if len(Quote([]byte{'a', '"', 0})) != 9 {
		t.Error("P2.4: the chapter's example isn't nine bytes")
	}
}

func TestUnquoteUndoesQuote(t *testing.T) {
	for a := range 256 {
		for b := range 256 {
			in := []byte{byte(a), byte(b)}
			q := Quote(in)
			for i := range len(q) {
				if q[i] < 32 || q[i] > 126 {
					t.Fatalf("P2.4: Quote(%v) isn't printable", in)
				}
			}
			if out, e := Unquote(q); e != api.OK || !bytes.Equal(out, in) {
				t.Fatalf("P2.4: Unquote(%s) = %v, %v", q, out, e)
			}
		}
	}
	if out, e := Unquote(`""`); e != api.OK || len(out) != 0 {
		t.Errorf("P2.4: Unquote of nothing = %v, %v", out, e)
	}
}

func TestQuoteUndoesUnquote(t *testing.T) {
	everyText(6, "\"\\x07a\x00", func(s string) {
		b, e := Unquote(s)
		if e == api.OK && Quote(b) != s {
			t.Errorf("P2.4: Quote(Unquote(%q)) = %q", s, Quote(b))
		}
		if e != api.OK && len(b) != 0 {
			t.Errorf("P2.4: Unquote(%q) = %v beside %v", s, b, e)
		}
	})
}

func TestUnquoteErrors(t *testing.T) {
	for _, c := range []struct {
		s    string
		want api.Errno
	}{
		{``, api.ErrEnd}, {`"`, api.ErrEnd}, {`"a`, api.ErrEnd}, {`"\`, api.ErrEnd}, {`"\x`, api.ErrEnd}, {`"\x0`, api.ErrEnd}, {`"\x00`, api.ErrEnd},
		{`"\"`, api.ErrEnd}, {`"\\`, api.ErrEnd}, {`"\\\"`, api.ErrEnd}, {`"\x4`, api.ErrEnd},
		{`a`, api.ErrForm}, {` "a"`, api.ErrForm}, {`a"`, api.ErrForm}, {`\`, api.ErrForm},
		{`"\x0G"`, api.ErrForm}, {`"\xG0"`, api.ErrForm}, {`"\xG`, api.ErrForm}, {`"\x0G`, api.ErrForm}, {`"\x0A"`, api.ErrForm}, {`"\xA0"`, api.ErrForm}, {`"\x"`, api.ErrForm}, {`"\x0"`, api.ErrForm},
		{`"\x41"`, api.ErrForm}, {`"\x20"`, api.ErrForm}, {`"\x7e"`, api.ErrForm}, {`"\x22"`, api.ErrForm}, {`"\x5c"`, api.ErrForm}, {`"\x41`, api.ErrForm},
		{`"a"b`, api.ErrForm}, {`""""`, api.ErrForm}, {`"" `, api.ErrForm}, {`"\n"`, api.ErrForm}, {`"\a`, api.ErrForm}, {`"\X00"`, api.ErrForm},
		{"\"\x1f\"", api.ErrForm}, {"\"\x7f\"", api.ErrForm}, {"\"\xff\"", api.ErrForm}, {"\"\n", api.ErrForm}, {"\"\\\x00\"", api.ErrForm},
	} {
		if b, e := Unquote(c.s); e != c.want || len(b) != 0 {
			t.Errorf("P2.4: Unquote(%q) = %v, %v, want %v", c.s, b, e, c.want)
		}
	}
}

func TestQuoteMemory(t *testing.T) {
	room := []byte{'a', 0, 'k'}
	q := Quote(room[:2])
	clear(room[:2])
	if q != `"a\x00"` || room[2] != 'k' {
		t.Errorf("P2.4: Quote shares memory: %s, %v", q, room)
	}
	one, _ := Unquote(q)
	two, _ := Unquote(q)
	clear(one[:cap(one)])
	if !bytes.Equal(two, []byte{'a', 0}) {
		t.Errorf("P2.4: Unquote's answers share memory: %v", two)
	}
}
