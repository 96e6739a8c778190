package store

import (
	"slices"

	"groyne/api"
	"groyne/lock"
	"groyne/rec"
)

// trial tells whether records can be done one behind the other, and changes nothing of the store.
type trial struct {
	facts                     // ahead of all records
	held  *lock.Table         // likewise
	asked lock.Table          // what the records hold
	last  map[api.Txn]int     // the kind of the last record of each transaction
	set   map[uint64]struct{} // the barriers
}

func newTrial(f facts, held *lock.Table) *trial {
	return &trial{facts: f, held: held, last: map[api.Txn]int{}, set: map[uint64]struct{}{}}
}

// takes tells whether a record can be done behind those that were taken; then it is one of these.
func (t *trial) takes(r rec.Rec) bool {
	if !t.can(r) {
		return false
	}
	switch r.Kind {
	case rec.Mark:
		t.set[r.Id] = struct{}{}
		return true
	case rec.Commit, rec.Abort, rec.One:
		t.asked.Release(r.Txn)
	}
	t.last[r.Txn] = r.Kind
	return true
}

func (t *trial) can(r rec.Rec) bool {
	switch r.Kind {
	case rec.Prepare:
		return t.kind(r.Txn) == 0 && fit(r.Writes) && t.lockable(r.Txn, r.Ranges)
	case rec.One:
		return t.kind(r.Txn) == 0 && fit(r.Writes)
	case rec.Commit, rec.Abort:
		return t.kind(r.Txn) == rec.Prepare
	case rec.Mark:
		_, stands := t.marks[r.Id]
		_, set := t.set[r.Id]
		return !stands && !set
	}
	return false
}

// kind answers that of a transaction's last record, 0 if it isn't known.
func (t *trial) kind(x api.Txn) int {
	if kind, touched := t.last[x]; touched {
		return kind
	}
	return t.txns[x].kind
}

// lockable tells whether a transaction gets its ranges; if so it has them.
func (t *trial) lockable(x api.Txn, ranges []api.Range) bool {
	holds := func(rival api.Txn) bool {
		// What the records have ended holds nothing any more, though the table still says so.
		last, touched := t.last[rival]
		return !touched || last == rec.Prepare
	}
	return !slices.ContainsFunc(t.held.Rivals(x, ranges...), holds) && t.asked.Ask(x, ranges...) == api.OK
}

// fit tells whether a tree takes these writes.
func fit(writes []api.Write) bool {
	return !slices.ContainsFunc(writes, func(w api.Write) bool {
		return len(w.Key) > api.MaxKey || !w.Gone && len(w.Value) > api.MaxValue
	})
}
