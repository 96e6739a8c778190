package dump

import (
	"strings"

	"groyne/api"
	"groyne/pack"
	"groyne/parity"
	"groyne/vault"
)

// What the names of a backup's things begin with; and what they end with, behind the Number of its Id (of a piece its own Number is behind that).
const (
	base      = "base."
	beginning = ".begin"
	piece     = ".piece."
	ending    = ".end"
)

func path(id uint64, kind string) string { return base + vault.Number(id) + kind }

// ids answers which backups have a thing whose name ends so, rising.
func ids(v vault.Shelf, kind string) []uint64 {
	var list []uint64
	for _, name := range v.Names(base) {
		number, ok := strings.CutSuffix(name[len(base):], kind)
		if id, isNumber := vault.ToNumber(number); ok && isNumber {
			list = append(list, id)
		}
	}
	return list
}

// text answers a writer of a thing's bytes. It says its own name: so it isn't taken for another one.
func text(name string) pack.Writer {
	var w pack.Writer
	w.Text([]byte(name))
	return w
}

// open answers a reader of what a thing says behind its name. ErrNone: it isn't there; ErrForm: it isn't so.
func open(v vault.Shelf, name string) (*pack.Reader, api.Errno) {
	b, e := v.Fetch(name)
	if e != api.OK {
		return nil, e
	}
	says, _ := parity.Unwrap(b) // none beside an error, not even a name
	r := pack.Read(says)
	if string(r.Text()) != name {
		return nil, api.ErrForm
	}
	return r, api.OK
}

func putBeginning(v vault.Shelf, id, from uint64, dump []byte) api.Errno {
	name := path(id, beginning)
	w := text(name)
	w.Num(from)
	w.Text(dump)
	return v.Store(parity.Wrap(w.Bytes()), name)
}

// begun answers the index of the next record, and what was known, when a backup began.
func begun(v vault.Shelf, id uint64) (uint64, []byte, api.Errno) {
	r, e := open(v, path(id, beginning))
	if e != api.OK {
		return 0, nil, e
	}
	from, dump := r.Num(), r.Text()
	if r.Close() != api.OK {
		return 0, nil, api.ErrForm
	}
	return from, dump, api.OK
}

func putPiece(v vault.Shelf, id, number uint64, pairs []api.Pair) api.Errno {
	name := path(id, piece) + vault.Number(number)
	w := text(name)
	for _, p := range pairs {
		w.Text(p.Key, p.Value)
	}
	return v.Store(parity.Wrap(w.Bytes()), name)
}

// pairsOf answers what a piece has.
func pairsOf(v vault.Shelf, name string) ([]api.Pair, api.Errno) {
	r, e := open(v, name)
	if e != api.OK {
		return nil, e
	}
	var pairs []api.Pair
	for r.Left() > 0 && r.Err() == api.OK {
		pairs = append(pairs, api.Pair{Key: r.Text(), Value: r.Text()})
	}
	if r.Close() != api.OK {
		return nil, api.ErrForm
	}
	return pairs, api.OK
}

func putEnd(v vault.Shelf, b Base, count uint64) api.Errno {
	name := path(b.Id, ending)
	w := text(name)
	w.Num(b.From, b.To, count)
	return v.Store(parity.Wrap(w.Bytes()), name)
}

// end answers a backup that is finished, and how many pieces it has.
func end(v vault.Shelf, id uint64) (Base, uint64, api.Errno) {
	r, e := open(v, path(id, ending))
	if e != api.OK {
		return Base{}, 0, e
	}
	b, count := Base{Id: id, From: r.Num(), To: r.Num()}, r.Num()
	if r.Close() != api.OK {
		return Base{}, 0, api.ErrForm
	}
	return b, count, api.OK
}
