package store

import (
	"groyne/api"
	"groyne/drive"
	"groyne/journal"
	"groyne/pack"
	"groyne/sweep"
)

// Keep: records from an index on stay.
func (s *Store) Keep(from uint64) { s.keep, s.kept = from, true }

// Checkpoint: all is safe without the log.
func (s *Store) Checkpoint() api.Errno {
	if e := s.save(s.Next()); e != api.OK {
		return e
	}
	if !s.kept {
		return api.OK
	}
	if e := s.log.Drop(s.keep); e != api.OK {
		return e
	}
	return s.log.Flush()
}

// save makes all that is known safe, as it is ahead of the record with this index.
func (s *Store) save(next uint64) api.Errno {
	var w pack.Writer
	w.Num(uint64(s.Root()), next)
	w.Text(s.Dump())
	return s.Save(w.Bytes())
}

// Dump: what is known, without the tree.
func (s *Store) Dump() []byte { return s.facts.bytes() }

// Load: a store with such a dump, and pairs.
func Load(d *drive.Drive, prefix string, o Options, dump []byte, pairs []api.Pair, next uint64) (*Store, api.Errno) {
	var writes []api.Write
	for _, p := range pairs {
		writes = append(writes, api.Write{Key: p.Key, Value: p.Value})
	}
	if !fit(writes) {
		return nil, api.ErrSize
	}
	f, ok := readFacts(dump)
	if !ok {
		return nil, api.ErrForm
	}
	if len(d.List(prefix)) > 0 {
		return nil, api.ErrThere
	}
	s, e := load(d, prefix, o, f, writes, next)
	if e == api.OK {
		return s, api.OK
	}
	// What had room already would be in the way of the next Load.
	if dead := sweep.Away(d, prefix); dead != api.OK {
		return nil, dead
	}
	return nil, e
}

// load lays a store where nothing lies. The save makes it whole, all at once; Open begins the log, if a crash comes between.
func load(d *drive.Drive, prefix string, o Options, f facts, writes []api.Write, next uint64) (*Store, api.Errno) {
	s, _, e := openSaved(d, prefix, o)
	if e != api.OK {
		return nil, e
	}
	s.learn(f)
	if e := s.Tree.Apply(writes...); e != api.OK {
		return nil, e
	}
	if e := s.save(next); e != api.OK {
		return nil, e
	}
	if s.log, e = journal.Begin(d, prefix+logPart, o.Most, next); e != api.OK {
		return nil, e
	}
	return s, api.OK
}
