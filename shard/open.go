package shard

import (
	"groyne/api"
	"groyne/drive"
	"groyne/pack"
	"groyne/parity"
	"groyne/store"
	"groyne/sweep"
	"groyne/vault"
)

// The file that makes a drive a shard's: it says of which incarnation.
const node = "node"

// What the name of the file begins with that says how often a shard was opened; the Number of its boot is behind it. It says so by its name alone: a new name needs no room, so a shard comes back on a full drive, too.
const boots = node + "."

// Identity: the file that says which shard lies on a drive.
func Identity() string { return node }

// Prefix: where a shard's store lies on its drive.
func Prefix() string { return "s/" }

// Identify: the store on a drive is a shard's of an incarnation.
func Identify(d *drive.Drive, inc uint64) api.Errno {
	if e := drive.Replace(d, node, parity.Wrap(pack.Number(inc))); e != api.OK {
		return e
	}
	return sweep.Away(d, boots) // so its boots are counted anew
}

// identity answers of which incarnation the shard is that lies on a drive.
func identity(d *drive.Drive) (uint64, api.Errno) {
	b, e := d.Read(node)
	if e != api.OK {
		return 0, e
	}
	says, _ := parity.Unwrap(b) // none beside an error, not even a number
	r := pack.Read(says)
	inc := r.Num()
	if r.Close() != api.OK {
		return 0, api.ErrForm
	}
	return inc, api.OK
}

// nextBoot counts a boot, safely.
func nextBoot(d *drive.Drive) (uint64, api.Errno) {
	last := uint64(0)
	for _, name := range d.List(boots) {
		boot, _ := vault.ToNumber(name[len(boots):])
		last = max(last, boot)
	}
	next := boots + vault.Number(last+1)
	e := d.Rename(boots+vault.Number(last), next)
	if e == api.ErrNone { // the first one
		e = d.Write(next, 0, nil)
	}
	if e != api.OK {
		return 0, e
	}
	return last + 1, d.Flush()
}

// Format: an empty shard on a wiped drive.
func Format(d *drive.Drive, inc uint64, o Options) api.Errno {
	if len(d.List("")) > 0 {
		return api.ErrThere
	}
	// Of an empty store nothing lies there.
	return Identify(d, inc)
}

// Open: the shard that lies on a drive.
func Open(d *drive.Drive, v vault.Shelf, o Options) (*Shard, api.Errno) {
	inc, e := identity(d)
	if e != api.OK {
		return nil, e
	}
	kept, e := store.Open(d, Prefix(), o.Options)
	if e != api.OK {
		return nil, e
	}
	// It must be safe ahead of any answer: a boot that came twice would pass what a crash took for what is still there.
	boot, e := nextBoot(d)
	if e != api.OK {
		return nil, e
	}
	return &Shard{
		Store:    kept,
		inc:      inc,
		boot:     boot,
		shelf:    Shelf(v, inc),
		patience: o.Patience,
		every:    o.Every,
		branches: map[api.Txn]work{},
		over:     map[api.Txn]struct{}{},
		waits:    map[api.Txn]int{},
		saved:    kept.Next(),
	}, api.OK
}
