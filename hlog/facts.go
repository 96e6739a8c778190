package hlog

import (
	"bytes"
	"cmp"
	"maps"
	"slices"

	"groyne/api"
	"groyne/pack"
	"groyne/parity"
	"groyne/rec"
)

// facts are what a log's records come to.
type facts struct {
	next      uint64 // the index behind them
	decisions map[api.Txn]Decision
	cuts      map[uint64]Cut
}

func noFacts(next uint64) facts {
	return facts{next, map[api.Txn]Decision{}, map[uint64]Cut{}}
}

// news are the facts that are new or other behind some records.
type news struct {
	facts
	old facts
}

// news answers what is new behind these records, done one behind the other; false: one can't be done.
func (f facts) news(recs []rec.Rec) (news, bool) {
	n := news{noFacts(f.next), f}
	for _, r := range recs {
		if !n.do(r, n.next) {
			return news{}, false
		}
		n.next++
	}
	return n, true
}

// do has a record done that stands at an index; false: it can't be.
func (n news) do(r rec.Rec, at uint64) bool {
	d, decided := latest(r.Txn, n.decisions, n.old.decisions)
	c, stands := latest(r.Id, n.cuts, n.old.cuts)
	switch {
	case r.Kind == rec.Decide && !decided:
		n.decisions[r.Txn] = Decision{Commit: r.Commit, Shards: slices.Clone(r.Shards), Reply: bytes.Clone(r.Reply), At: at}
	case r.Kind == rec.End && decided && !d.Ended:
		d.Ended = true
		n.decisions[r.Txn] = d
	case r.Kind == rec.Cut && !stands:
		n.cuts[r.Id] = Cut{Id: r.Id, Name: r.Name, At: at}
	case r.Kind == rec.Done && stands && !c.Done:
		c.Done = true
		n.cuts[r.Id] = c
	default:
		return false
	}
	return true
}

// latest answers what the first of the maps that has the key has there.
func latest[K comparable, V any](key K, list ...map[K]V) (V, bool) {
	for _, m := range list {
		if v, there := m[key]; there {
			return v, true
		}
	}
	var none V
	return none, false
}

func (f *facts) learn(n news) {
	f.next = n.next
	maps.Copy(f.decisions, n.decisions)
	maps.Copy(f.cuts, n.cuts)
}

// take has records done, all or none of them.
func (f *facts) take(recs []rec.Rec) bool {
	n, ok := f.news(recs)
	if ok {
		f.learn(n)
	}
	return ok
}

// byPlace answers the cuts by rising indexes.
func (f facts) byPlace() []Cut {
	return slices.SortedFunc(maps.Values(f.cuts), func(a, b Cut) int { return cmp.Compare(a.At, b.At) })
}

// records answers records that say all that is known, by rising indexes. Where an End or a Done stands isn't known; it stands with what it ends.
func (f facts) records() []rec.Pos {
	var list []rec.Pos
	add := func(at uint64, ended bool, begin, end rec.Rec) {
		list = append(list, rec.Pos{Rec: begin, At: at})
		if ended {
			list = append(list, rec.Pos{Rec: end, At: at})
		}
	}
	for x, d := range f.decisions {
		decide := rec.Rec{Kind: rec.Decide, Txn: x, Commit: d.Commit, Shards: d.Shards, Reply: d.Reply}
		add(d.At, d.Ended, decide, rec.Rec{Kind: rec.End, Txn: x})
	}
	for id, c := range f.cuts {
		add(c.At, c.Done, rec.Rec{Kind: rec.Cut, Id: id, Name: c.Name}, rec.Rec{Kind: rec.Done, Id: id})
	}
	slices.SortStableFunc(list, func(a, b rec.Pos) int { return cmp.Compare(a.At, b.At) })
	return list
}

// bytes answers the facts as bytes, the same of those that are the same.
func (f facts) bytes() []byte {
	var w pack.Writer
	w.Num(f.next)
	for _, p := range f.records() {
		w.Num(p.At)
		w.Text(p.Bytes())
	}
	return parity.Wrap(w.Bytes())
}

// readFacts answers the facts that have these bytes; false: there are none.
func readFacts(b []byte) (facts, bool) {
	says, _ := parity.Unwrap(b) // none beside an error, not even a number
	in := pack.Read(says)
	n := news{facts: noFacts(in.Num())}
	for in.Left() > 0 {
		at := in.Num()
		r, e := rec.Read(in.Text())
		if e != api.OK || !n.do(r, at) {
			return facts{}, false
		}
	}
	return n.facts, in.Close() == api.OK
}
