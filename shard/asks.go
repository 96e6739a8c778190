package shard

import (
	"bytes"
	"slices"

	"groyne/api"
	"groyne/branch"
	"groyne/rec"
)

// work is a branch that isn't prepared: what was answered, and what it locks.
type work struct {
	out   branch.Outcome
	locks []api.Range
}

// drop has a branch that isn't prepared gone, with its locks.
func (s *Shard) drop(x api.Txn) {
	delete(s.branches, x)
	s.Locks().Release(x)
}

func (s *Shard) greet(Ask) Answer { return Answer{} }

func (s *Shard) work(a Ask) Answer {
	_, known := s.Known(a.Txn)
	_, over := s.over[a.Txn]
	if a.Boot != s.boot || known || over {
		return Answer{Err: api.ErrGone}
	}
	if w, there := s.branches[a.Txn]; there {
		return Answer{Out: twin(w.out)}
	}
	out := s.try(a.Txn, a.Ops)
	if out.Err != api.OK {
		s.over[a.Txn] = struct{}{}
		return Answer{Err: out.Err, Out: out}
	}
	w := work{twin(out), branch.Locks(a.Ops...)}
	s.branches[a.Txn] = w
	s.Locks().Ask(a.Txn, w.locks...) // nobody else's is in the way
	return Answer{Out: out}
}

// try answers what ops come to, if nobody else's locks are in the way.
func (s *Shard) try(x api.Txn, ops []api.Op) branch.Outcome {
	if e := branch.Check(ops...); e != api.OK {
		return branch.Outcome{Err: e}
	}
	for i, op := range ops {
		if len(s.Locks().Rivals(x, branch.Locks(op)...)) > 0 {
			return branch.Outcome{Err: api.ErrLocked, At: i}
		}
	}
	return branch.Run(s.Tree, ops...)
}

// twin answers the same outcome in memory of its own.
func twin(o branch.Outcome) branch.Outcome {
	o.Rows, o.Writes = slices.Clone(o.Rows), slices.Clone(o.Writes)
	for i, row := range o.Rows {
		o.Rows[i] = slices.Clone(row)
		for j, p := range row {
			o.Rows[i][j] = api.Pair{Key: bytes.Clone(p.Key), Value: bytes.Clone(p.Value)}
		}
	}
	for i, w := range o.Writes {
		o.Writes[i].Key, o.Writes[i].Value = bytes.Clone(w.Key), bytes.Clone(w.Value)
	}
	return o
}

func (s *Shard) ready(a Ask) Answer {
	if known, _ := s.Known(a.Txn); known.Prepared {
		return Answer{}
	}
	w, there := s.branches[a.Txn]
	if a.Boot != s.boot || !there {
		return Answer{Err: api.ErrGone}
	}
	e := s.log(rec.Rec{Kind: rec.Prepare, Txn: a.Txn, Writes: w.out.Writes, Ranges: w.locks})
	if e == api.OK {
		delete(s.branches, a.Txn) // the store has it now, and its locks
	}
	return Answer{Err: e}
}

// log has one record logged and done.
func (s *Shard) log(r rec.Rec) api.Errno {
	_, e := s.Append(r)
	return e
}

func (s *Shard) single(a Ask) Answer {
	if s.isOne(a.Txn) {
		return s.committed(a.Txn)
	}
	w, there := s.branches[a.Txn]
	if a.Boot != s.boot || !there {
		return Answer{Err: api.ErrGone}
	}
	if e := s.log(rec.Rec{Kind: rec.One, Txn: a.Txn, Writes: w.out.Writes, Reply: a.Reply}); e != api.OK {
		return Answer{Err: e}
	}
	s.drop(a.Txn)
	return s.committed(a.Txn)
}

func (s *Shard) isOne(x api.Txn) bool {
	known, _ := s.Known(x)
	return known.Commit && slices.Contains(s.Ones(), x)
}

// committed says whether a transaction is committed, and its reply.
func (s *Shard) committed(x api.Txn) Answer {
	known, _ := s.Known(x)
	return Answer{Commit: known.Commit, Reply: known.Reply}
}

func (s *Shard) finish(a Ask) Answer {
	if a.Commit {
		return Answer{Err: s.end(a.Txn, rec.Commit)}
	}
	return Answer{Err: s.end(a.Txn, rec.Abort)}
}

// end has a transaction over: one that is prepared by a record of this kind, by which the store knows that it is.
func (s *Shard) end(x api.Txn, kind int) api.Errno {
	if known, _ := s.Known(x); known.Prepared {
		return s.log(rec.Rec{Kind: kind, Txn: x})
	}
	s.drop(x)
	s.over[x] = struct{}{}
	return api.OK
}

func (s *Shard) mark(a Ask) Answer {
	if _, stands := s.Marked(a.Id); !stands {
		if e := s.log(rec.Rec{Kind: rec.Mark, Id: a.Id, Name: a.Name}); e != api.OK {
			return Answer{Err: e}
		}
		// So that the next tick ships all that a restore to the barrier needs.
		s.Log().Close()
	}
	at, _ := s.Marked(a.Id)
	return Answer{At: at}
}

func (s *Shard) settle(a Ask) Answer {
	if e := s.end(a.Txn, rec.Abort); e != api.OK {
		return Answer{Err: e}
	}
	return s.committed(a.Txn)
}

func (s *Shard) backUp(a Ask) Answer {
	return Answer{Err: s.Backup(a.Id)}
}
