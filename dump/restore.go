package dump

import (
	"math"
	"strings"

	"groyne/api"
	"groyne/drive"
	"groyne/pack"
	"groyne/rec"
	"groyne/store"
	"groyne/sweep"
	"groyne/vault"
)

// copied is what lies on a shelf of a backup.
type copied struct {
	from  uint64
	dump  []byte
	pairs []api.Pair // of all pieces
	count uint64     // how many pieces there are
	next  uint64     // the number behind the last one's
	ended bool
	base  Base   // if it is ended
	said  uint64 // how many pieces it has, as its end says
}

// look answers all that lies there of a backup. ErrNone: it has no beginning; ErrForm: something isn't so.
func look(v vault.Shelf, id uint64) (copied, api.Errno) {
	var c copied
	if !c.takePieces(v, id) || !c.takeEnd(v, id) {
		return copied{}, api.ErrForm
	}
	var e api.Errno
	c.from, c.dump, e = begun(v, id)
	return c, e
}

// takePieces has all pieces that lie there; false: one isn't so.
func (c *copied) takePieces(v vault.Shelf, id uint64) bool {
	for _, name := range v.Names(path(id, piece)) {
		number, ok := vault.ToNumber(strings.TrimPrefix(name, path(id, piece)))
		if !ok {
			continue
		}
		pairs, e := pairsOf(v, name)
		if e != api.OK {
			return false
		}
		c.pairs = append(c.pairs, pairs...)
		c.count, c.next = c.count+1, number+1
	}
	return true
}

// takeEnd has the end, if it lies there; false: it isn't so.
func (c *copied) takeEnd(v vault.Shelf, id uint64) bool {
	var e api.Errno
	c.base, c.said, e = end(v, id)
	c.ended = e == api.OK
	return c.ended || e == api.ErrNone
}

// behind answers the least key behind the last one that was copied.
func (c copied) behind() []byte {
	if len(c.pairs) == 0 {
		return nil
	}
	return pack.After(c.pairs[len(c.pairs)-1].Key)
}

// whole tells whether this is all of a backup.
func (c copied) whole(b Base) bool {
	return c.ended && c.base == b && c.count == c.said
}

// Restore: a store from a backup and records.
func Restore(d *drive.Drive, prefix string, o store.Options, v vault.Shelf, b Base, records ...[]byte) (*store.Store, api.Errno) {
	recs, e := read(records)
	if e != api.OK {
		return nil, e
	}
	c, e := look(v, b.Id)
	if e != api.OK || !c.whole(b) {
		return nil, api.ErrNotArchived
	}
	// What can't be done is told ahead of all that is written.
	if e := c.try(recs); e != api.OK {
		return nil, e
	}
	s, e := store.Load(d, prefix, o, c.dump, c.pairs, c.from)
	if e != api.OK {
		return nil, e
	}
	if _, e = s.Append(recs...); e == api.OK {
		return s, api.OK
	}
	if dead := sweep.Away(d, prefix); dead != api.OK {
		return nil, dead
	}
	return nil, e
}

func read(records [][]byte) ([]rec.Rec, api.Errno) {
	var recs []rec.Rec
	for _, record := range records {
		r, e := rec.Read(record)
		if e != api.OK {
			return nil, api.ErrForm
		}
		recs = append(recs, r)
	}
	return recs, api.OK
}

// try has records done behind the backup on a drive of its own. Whether they can be hangs on what is known alone, so it needs no pairs.
func (c copied) try(recs []rec.Rec) api.Errno {
	s, e := store.Load(drive.New(math.MaxInt), "", store.Options{Hand: math.MaxInt, Most: math.MaxInt}, c.dump, nil, c.from)
	if e != api.OK {
		return api.ErrNotArchived
	}
	if _, e = s.Append(recs...); e == api.ErrArg {
		return api.ErrForm
	}
	return e
}
