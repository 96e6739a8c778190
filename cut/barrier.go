package cut

import (
	"slices"

	"groyne/api"
	"groyne/label"
	"groyne/pack"
	"groyne/vault"
)

// Barrier: where it stands in each node's log.
type Barrier struct {
	Id   uint64
	Name string
	At   []uint64
}

// Enter: a barrier is in the catalogue.
func Enter(s vault.Shelf, inc uint64, b Barrier) api.Errno {
	if !label.Valid(b.Name) {
		return api.ErrForm
	}
	if other, e := Lookup(s, inc, b.Name); e == api.OK && other.Id != b.Id {
		return api.ErrThere
	}
	return s.Store(b.bytes(), shelfOf(inc), vault.Number(b.Id))
}

// shelfOf answers what the names of an incarnation's barriers begin with.
func shelfOf(inc uint64) string { return entered + vault.Number(inc) + "." }

func (b Barrier) bytes() []byte {
	var w pack.Writer
	w.Text([]byte(b.Name))
	w.Num(b.At...)
	return w.Bytes()
}

// barrierOf answers the barrier that a thing on the shelf is; false: it is none.
func barrierOf(s vault.Shelf, inc uint64, name string) (Barrier, bool) {
	id, ok := vault.ToNumber(name[len(shelfOf(inc)):])
	b, e := s.Fetch(name)
	r := pack.Read(b)
	found := Barrier{Id: id, Name: string(r.Text())}
	for r.Left() > 0 && r.Err() == api.OK {
		found.At = append(found.At, r.Num())
	}
	return found, ok && e == api.OK && r.Close() == api.OK && label.Valid(found.Name)
}

// Barriers: those of an incarnation.
func Barriers(s vault.Shelf, inc uint64, patterns ...string) []Barrier {
	var list []Barrier
	for _, name := range s.Names(shelfOf(inc)) {
		b, ok := barrierOf(s, inc, name)
		if ok && (len(patterns) == 0 || matches(b.Name, patterns)) {
			list = append(list, b)
		}
	}
	return list
}

func matches(name string, patterns []string) bool {
	return slices.ContainsFunc(patterns, func(pattern string) bool { return label.Match(name, pattern) })
}

// Lookup: the one of a name.
func Lookup(s vault.Shelf, inc uint64, name string) (Barrier, api.Errno) {
	for _, b := range Barriers(s, inc) {
		if b.Name == name {
			return b, api.OK
		}
	}
	return Barrier{}, api.ErrNone
}
