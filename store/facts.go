package store

import (
	"bytes"
	"maps"
	"slices"

	"groyne/api"
	"groyne/lock"
	"groyne/pack"
	"groyne/rec"
)

// entry is what is known of a transaction by its last record.
type entry struct {
	kind int
	at   uint64
	text []byte // of a Prepare its bytes, of a One the reply
}

// prepared answers the record of one that is.
func (last entry) prepared() rec.Rec {
	// The bytes were a record's when they came in.
	r, _ := rec.Read(last.text)
	return r
}

// facts are what is known beside the tree.
type facts struct {
	txns  map[api.Txn]entry
	marks map[uint64]uint64
}

func noFacts() facts {
	return facts{map[api.Txn]entry{}, map[uint64]uint64{}}
}

// those answers the transactions whose last record is of one of these kinds, rising.
func (f facts) those(kinds ...int) []api.Txn {
	var list []api.Txn
	for x, last := range f.txns {
		if slices.Contains(kinds, last.kind) {
			list = append(list, x)
		}
	}
	slices.SortFunc(list, lock.Compare)
	return list
}

// bytes answers the facts in one form alone, so that stores that know the same have the same.
func (f facts) bytes() []byte {
	var w pack.Writer
	w.Num(uint64(len(f.txns)))
	for _, x := range slices.SortedFunc(maps.Keys(f.txns), lock.Compare) {
		last := f.txns[x]
		w.Num(x.Boot, x.Session, x.Seq, uint64(last.kind), last.at)
		w.Text(last.text)
	}
	w.Num(uint64(len(f.marks)))
	for _, id := range slices.Sorted(maps.Keys(f.marks)) {
		w.Num(id, f.marks[id])
	}
	return w.Bytes()
}

// readFacts answers the facts that have these bytes; false: there are none.
func readFacts(b []byte) (facts, bool) {
	f := noFacts()
	r := pack.Read(b)
	for range r.Num() {
		x := api.Txn{Boot: r.Num(), Session: r.Num(), Seq: r.Num()}
		last := entry{int(r.Num()), r.Num(), r.Text()}
		// The count may be far above what the bytes can hold, so the first error must end the loop.
		if r.Err() != api.OK || !last.sound(x) {
			return facts{}, false
		}
		f.txns[x] = last
	}
	for range r.Num() {
		id, at := r.Num(), r.Num()
		if r.Err() != api.OK {
			return facts{}, false
		}
		f.marks[id] = at
	}
	// In another order, with one that is there twice, or with an error, they aren't what bytes answers.
	return f, bytes.Equal(f.bytes(), b)
}

// sound tells whether a store can know this of a transaction.
func (last entry) sound(x api.Txn) bool {
	switch last.kind {
	case rec.Prepare:
		r, e := rec.Read(last.text)
		return e == api.OK && r.Kind == rec.Prepare && r.Txn == x && newTrial(noFacts(), &lock.Table{}).can(r)
	case rec.Commit, rec.Abort:
		return len(last.text) == 0
	}
	return last.kind == rec.One
}
