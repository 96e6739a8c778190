package branch

import (
	"bytes"
	"slices"

	"groyne/api"
	"groyne/pack"
)

// Reader answers the pairs of a range.
type Reader interface {
	Scan(from, to []byte, most int) ([]api.Pair, api.Errno)
}

// Outcome: what a request comes to.
type Outcome struct {
	Err    api.Errno
	At     int
	Rows   [][]api.Pair
	Writes []api.Write
}

// Run: a request upon what a reader answers.
func Run(r Reader, ops ...api.Op) Outcome {
	if e := Check(ops...); e != api.OK {
		return Outcome{Err: e}
	}
	if r == nil {
		r = nothing{}
	}
	l := laid{r, map[string]api.Write{}}
	rows := make([][]api.Pair, len(ops))
	for i, op := range ops {
		row, e := l.do(op)
		if e != api.OK {
			return Outcome{Err: e, At: i}
		}
		rows[i] = row
	}
	return Outcome{Rows: rows, Writes: l.written()}
}

// nothing is a reader without pairs.
type nothing struct{}

func (nothing) Scan(from, to []byte, most int) ([]api.Pair, api.Errno) { return nil, api.OK }

// laid is a reader over which lies what a request has written.
type laid struct {
	Reader
	writes map[string]api.Write
}

// Scan: the pairs of a range, as the writes have left them.
func (l laid) Scan(from, to []byte, most int) ([]api.Pair, api.Errno) {
	// Each write hides one pair of the reader's at most, so this many are enough.
	below, e := l.Reader.Scan(from, to, most+len(l.writes))
	if e != api.OK {
		return nil, e
	}
	var pairs []api.Pair
	for _, p := range below {
		if _, hidden := l.writes[string(p.Key)]; !hidden {
			pairs = append(pairs, copiedPair(p))
		}
	}
	for _, w := range l.writes {
		if !w.Gone && pack.In(w.Key, from, to) {
			pairs = append(pairs, copiedPair(api.Pair{Key: w.Key, Value: w.Value}))
		}
	}
	slices.SortStableFunc(pairs, func(a, b api.Pair) int { return pack.Compare(a.Key, b.Key) })
	return first(pairs, most), api.OK
}

func first(pairs []api.Pair, most int) []api.Pair {
	return pairs[:min(len(pairs), max(most, 0))]
}

// do answers what an op answers, and keeps what it writes.
func (l laid) do(op api.Op) ([]api.Pair, api.Errno) {
	switch op.Kind {
	case api.Put:
		l.writes[string(op.Key)] = api.Write{Key: op.Key, Value: op.Value}
		return nil, api.OK
	case api.Del:
		l.writes[string(op.Key)] = api.Write{Key: op.Key, Gone: true}
		return nil, api.OK
	}
	pairs, e := l.read(op)
	if e != api.OK {
		return nil, e
	}
	switch op.Kind {
	case api.Expect:
		if len(pairs) == 0 || !bytes.Equal(pairs[0].Value, op.Value) {
			return nil, api.ErrGuard
		}
		return nil, api.OK
	case api.Absent:
		if len(pairs) > 0 {
			return nil, api.ErrGuard
		}
	}
	return pairs, api.OK
}

// read answers the pairs that an op looks at.
func (l laid) read(op api.Op) ([]api.Pair, api.Errno) {
	r, some := lockOf(op)
	if !some {
		return nil, api.OK
	}
	most := 1
	if op.Kind == api.Scan {
		most = op.Most
	}
	return l.Scan(r.From, r.To, most)
}

// written answers all writes, by rising keys.
func (l laid) written() []api.Write {
	var writes []api.Write
	for _, w := range l.writes {
		writes = append(writes, copiedWrite(w))
	}
	sortWrites(writes)
	return writes
}

func sortWrites(writes []api.Write) {
	slices.SortStableFunc(writes, func(a, b api.Write) int { return pack.Compare(a.Key, b.Key) })
}

// What is answered shares no memory with a reader, an argument, or another answer.

func copiedPair(p api.Pair) api.Pair {
	return api.Pair{Key: bytes.Clone(p.Key), Value: bytes.Clone(p.Value)}
}

func copiedWrite(w api.Write) api.Write {
	return api.Write{Key: bytes.Clone(w.Key), Value: bytes.Clone(w.Value), Gone: w.Gone}
}
