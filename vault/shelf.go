package vault

import (
	"strings"

	"groyne/api"
)

// Shelf is a vault, seen behind a prefix.
type Shelf struct {
	*Vault
	Prefix string
}

// Path: the prefix and the parts, joined.
func (s Shelf) Path(parts ...string) string {
	return s.Prefix + strings.Join(parts, "")
}

// Sub: the shelf behind a longer prefix.
func (s Shelf) Sub(parts ...string) Shelf {
	return Shelf{s.Vault, s.Path(parts...)}
}

// Names: those that begin so, without the shelf's prefix.
func (s Shelf) Names(parts ...string) []string {
	names := s.List(s.Path(parts...))
	for i, name := range names {
		names[i] = name[len(s.Prefix):]
	}
	return names
}

// Store: Put of a path.
func (s Shelf) Store(b []byte, parts ...string) api.Errno {
	return s.Put(s.Path(parts...), b)
}

// Fetch: Get of a path.
func (s Shelf) Fetch(parts ...string) ([]byte, api.Errno) {
	return s.Get(s.Path(parts...))
}
