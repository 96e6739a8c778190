package store

import (
	"groyne/api"
	"groyne/btree"
	"groyne/drive"
	"groyne/journal"
	"groyne/lock"
	"groyne/pack"
	"groyne/pages"
	"groyne/rec"
)

// Where the parts of a store lie behind its prefix.
const (
	treePart = "tree/"
	logPart  = "log."
)

// Open: what lies on a drive.
func Open(d *drive.Drive, prefix string, o Options) (*Store, api.Errno) {
	s, next, e := openSaved(d, prefix, o)
	if e != api.OK {
		return nil, e
	}
	if s.log, e = journal.Open(d, prefix+logPart, o.Most); e != api.OK {
		return nil, e
	}
	// A log keeps its last file, so this is what a Load left that was cut ahead of its end.
	if next > 0 && len(s.log.Spans()) == 0 {
		if s.log, e = journal.Begin(d, prefix+logPart, o.Most, next); e != api.OK {
			return nil, e
		}
	}
	if e := s.doAgain(next); e != api.OK {
		return nil, e
	}
	return s, api.OK
}

// openSaved answers the store as it was saved last, without its log, and the index of the first record that it doesn't have.
func openSaved(d *drive.Drive, prefix string, o Options) (*Store, uint64, api.Errno) {
	p, note, e := pages.Open(d, prefix+treePart, o.Hand)
	if e != api.OK {
		return nil, 0, e
	}
	if p.Count() == 0 && len(note) == 0 {
		t, e := btree.New(p)
		return &Store{Tree: t, facts: noFacts()}, 0, e
	}
	in := pack.Read(note)
	root, next, dump := in.Num(), in.Num(), in.Text()
	f, ok := readFacts(dump)
	if in.Close() != api.OK || !ok {
		return nil, 0, api.ErrForm
	}
	t, e := btree.At(p, int(root))
	if e == api.ErrArg { // the note's fault, not the caller's
		e = api.ErrForm
	}
	if e != api.OK {
		return nil, 0, e
	}
	s := &Store{Tree: t}
	s.learn(f)
	return s, next, api.OK
}

// learn has a store that knows nothing know these facts.
func (s *Store) learn(f facts) {
	s.facts = f
	for _, x := range s.Prepared() {
		s.locks.Ask(x, f.txns[x].prepared().Ranges...)
	}
}

// doAgain has the log's records from an index on take effect.
func (s *Store) doAgain(from uint64) api.Errno {
	texts, e := s.log.Records(from, s.Next())
	if e == api.ErrArg { // the log doesn't join on to what was saved
		e = api.ErrForm
	}
	if e != api.OK {
		return e
	}
	for i, text := range texts {
		r, e := rec.Read(text)
		// No rivals are looked for: there were none when the record was taken, whoever asks the table since.
		if e != api.OK || !newTrial(s.facts, &lock.Table{}).takes(r) {
			return api.ErrForm
		}
		if e := s.do(r, from+uint64(i)); e != api.OK {
			return e
		}
	}
	return api.OK
}
