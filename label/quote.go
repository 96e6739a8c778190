package label

import (
	"strings"

	"groyne/api"
)

const hexDigits = "0123456789abcdef"

func isPrintable(c byte) bool { return c >= 32 && c <= 126 }

// Quote: bytes as a printable text.
func Quote(b []byte) string {
	out := []byte{'"'}
	for i := range len(b) {
		c := b[i]
		switch {
		case !isPrintable(c):
			out = append(out, '\\', 'x', hexDigits[c>>4], hexDigits[c&15])
		case c == '\\' || c == '"':
			out = append(out, '\\', c)
		default:
			out = append(out, c)
		}
	}
	return string(append(out, '"'))
}

// Unquote: the bytes of such a text.
func Unquote(s string) ([]byte, api.Errno) {
	if s == "" {
		return nil, api.ErrEnd
	}
	if s[0] != '"' {
		return nil, api.ErrForm
	}
	var out []byte
	rest := s[1:]
	for rest != "" {
		if rest[0] == '"' {
			if len(rest) > 1 {
				return nil, api.ErrForm
			}
			return out, api.OK
		}
		c, size, e := unquoteByte(rest)
		if e != api.OK {
			return nil, e
		}
		out = append(out, c)
		rest = rest[size:]
	}
	return nil, api.ErrEnd
}

// unquoteByte: the byte that a text begins with in quoted form, and how long that form is; the text isn't empty.
func unquoteByte(s string) (byte, int, api.Errno) {
	if !isPrintable(s[0]) {
		return 0, 0, api.ErrForm
	}
	if s[0] != '\\' {
		return s[0], 1, api.OK
	}
	if len(s) == 1 {
		return 0, 0, api.ErrEnd
	}
	switch s[1] {
	case '\\', '"':
		return s[1], 2, api.OK
	case 'x':
		c, e := unquoteHex(s[2:])
		return c, 4, e
	}
	return 0, 0, api.ErrForm
}

func unquoteHex(s string) (byte, api.Errno) {
	var c byte
	for i := range 2 {
		if i == len(s) {
			return 0, api.ErrEnd
		}
		digit := strings.IndexByte(hexDigits, s[i])
		if digit < 0 {
			return 0, api.ErrForm
		}
		c = c<<4 | byte(digit)
	}
	// Quote leaves a printable byte as it is, so no bytes' Quote has it in this form.
	if isPrintable(c) {
		return 0, api.ErrForm
	}
	return c, api.OK
}
