package store_test

import (
	"bytes"
	"testing"

	"groyne/api"
	"groyne/drive"
	"groyne/rec"
	"groyne/store"
)

// roomy: bytes with spare room behind.
func roomy(s string) []byte {
	return append(make([]byte, 0, len(s)+8), s...)
}

// smear writes over bytes and their spare room.
func smear(lists ...[]byte) {
	for _, b := range lists {
		b = b[:cap(b)]
		for i := range b {
			b[i] = '!'
		}
	}
}

// parts are all bytes of a record.
func parts(r rec.Rec) [][]byte {
	list := [][]byte{r.Reply}
	for _, w := range r.Writes {
		list = append(list, w.Key, w.Value)
	}
	for _, x := range r.Ranges {
		list = append(list, x.From, x.To)
	}
	return list
}

func roomyRec(kind int, n uint64) rec.Rec {
	return rec.Rec{
		Kind:   kind,
		Txn:    txn(n),
		Writes: []api.Write{{Key: roomy("k"), Value: roomy("v")}, {Key: roomy("g"), Gone: true}},
		Ranges: []api.Range{{From: roomy("a"), To: roomy("b"), Excl: true}, {From: roomy("c"), To: roomy("d")}},
		Reply:  roomy("r"),
		Shards: []int{1, 2},
	}
}

func TestWhatIsHandedInIsLeftAlone(t *testing.T) { // P13.6
	s := with(t)
	recs := []rec.Rec{roomyRec(rec.Prepare, 1), roomyRec(rec.One, 2), roomyRec(rec.Commit, 1), roomyRec(rec.Prepare, 3)}
	ahead := tellAll(recs)
	append1(t, s, recs...)
	if _, e := s.Append(append(recs, mark(1))...); e != api.ErrArg {
		t.Errorf("Append: %d", e)
	}
	if tellAll(recs) != ahead {
		t.Errorf("the records have changed: %s", tellAll(recs))
	}
	told := tell(t, s)
	for _, r := range recs {
		smear(parts(r)...)
		clear(r.Writes)
		clear(r.Ranges)
	}
	if tell(t, s) != told {
		t.Errorf("the store has kept what it was handed: %s", tell(t, s))
	}
	dump, pairs := append(make([]byte, 0, 999), s.Dump()...), []api.Pair{{Key: roomy("k"), Value: roomy("v")}}
	whole := string(dump[:cap(dump)])
	l, e := store.Load(drive.New(1<<20), prefix, plain, dump, pairs, s.Next())
	if e != api.OK || string(dump[:cap(dump)]) != whole || string(pairs[0].Key[:9]) != "k\x00\x00\x00\x00\x00\x00\x00\x00" {
		t.Errorf("Load has changed what it was handed: %d", e)
	}
	smear(dump, pairs[0].Key, pairs[0].Value)
	clear(pairs)
	if tell(t, l) != told {
		t.Errorf("Load has kept what it was handed: %s", tell(t, l))
	}
}

func tellAll(recs []rec.Rec) string {
	out := ""
	for _, r := range recs {
		out += tellBranch(r)
		for _, b := range parts(r) {
			out += string(b[:cap(b)])
		}
	}
	return out
}

func TestAnswersAreNewMemory(t *testing.T) { // P13.6
	s := with(t, prepare(1, put("a", "1"), put("b", "2")), one(2, "reply", put("c", "3")), prepare(3), one(4, ""))
	told := tell(t, s)
	dump := s.Dump()
	for range 2 {
		r, _ := s.Branch(txn(1))
		other, _ := s.Branch(txn(1))
		text := tellBranch(other)
		smear(parts(r)...)
		clear(r.Writes[:cap(r.Writes)])
		clear(r.Ranges[:cap(r.Ranges)])
		if tellBranch(other) != text {
			t.Error("two branches share memory")
		}
		list := parts(other)
		for i, b := range list {
			smear(b)
			for _, c := range list[i+1:] {
				if bytes.ContainsRune(c, '!') {
					t.Error("a branch's parts share memory")
				}
			}
		}
		k, _ := s.Known(txn(2))
		smear(k.Reply)
		for _, txns := range [][]api.Txn{s.Prepared(), s.Ones(), s.Committed()} {
			clear(txns[:cap(txns)])
		}
		smear(s.Dump())
		if tell(t, s) != told || !bytes.Equal(s.Dump(), dump) {
			t.Errorf("what it answered was the store's own: %s", tell(t, s))
		}
	}
}
