package lock

import (
	"bytes"
	"cmp"

	"groyne/api"
	"groyne/pack"
)

// mostEnd is one more than a key may have, since the range of a key alone ends at that key with a byte behind.
const mostEnd = api.MaxKey + 1

// Compare: the order of transactions.
func Compare(a, b api.Txn) int {
	return cmp.Or(cmp.Compare(a.Boot, b.Boot), cmp.Compare(a.Session, b.Session), cmp.Compare(a.Seq, b.Seq))
}

// Clash: can't both be held?
func Clash(a, b api.Range) bool {
	return inForm(a) && inForm(b) && (a.Excl || b.Excl) && (has(a, b.From) || has(b, a.From))
}

// Covers: has one all of the other?
func Covers(a, b api.Range) bool {
	return inForm(a) && inForm(b) && (a.Excl || !b.Excl) && has(a, b.From) && endsBehind(a, b)
}

// endsBehind tells whether a range ends where the other one does, or behind that.
func endsBehind(a, b api.Range) bool {
	if len(a.To) == 0 || len(b.To) == 0 {
		return len(a.To) == 0
	}
	return pack.Compare(a.To, b.To) >= 0
}

func has(r api.Range, key []byte) bool {
	return pack.In(key, r.From, r.To)
}

// inForm: a range that isn't empty has its own From.
func inForm(r api.Range) bool {
	return !tooLong(r) && has(r, r.From)
}

func tooLong(r api.Range) bool {
	return len(r.From) > mostEnd || len(r.To) > mostEnd
}

// copied shares no memory with r, so that it may be kept, or answered.
func copied(r api.Range) api.Range {
	return api.Range{From: bytes.Clone(r.From), To: bytes.Clone(r.To), Excl: r.Excl}
}
