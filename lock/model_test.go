package lock_test

import (
	"bytes"
	"maps"
	"math/rand"
	"slices"
	"testing"

	"groyne/api"
	"groyne/lock"
)

// model is a table as the chapter's words have it, key by key.
type model map[api.Txn][]api.Range

func (m model) rivals(x api.Txn, ranges []api.Range) []api.Txn {
	var list []api.Txn
	for other, held := range m {
		for _, h := range held {
			if other != x && slices.ContainsFunc(ranges, func(r api.Range) bool { return clashes(h, r) }) {
				list = append(list, other)
				break
			}
		}
	}
	slices.SortFunc(list, lock.Compare)
	return list
}

func (m model) ask(x api.Txn, ranges []api.Range) api.Errno {
	for _, r := range ranges {
		if len(r.From) > 65 || len(r.To) > 65 {
			return api.ErrSize
		}
	}
	for _, r := range ranges {
		if !inForm(r) {
			return api.ErrForm
		}
	}
	if len(m.rivals(x, ranges)) > 0 {
		return api.ErrLocked
	}
	held := slices.Clone(m[x])
	for _, r := range ranges {
		if !slices.ContainsFunc(held, func(h api.Range) bool { return lock.Covers(h, r) }) {
			held = append(held, r)
		}
	}
	m[x] = held
	return api.OK
}

func TestScripts(t *testing.T) { // P11.1, P11.2, P11.3
	all := everyRange()
	for seed := range int64(100) {
		rnd := rand.New(rand.NewSource(seed))
		good := slices.DeleteFunc(everyRange(), func(r api.Range) bool { return !inForm(r) })
		var l lock.Table
		m := model{}
		for range 100 {
			x := api.Txn{Boot: uint64(rnd.Intn(2)), Session: uint64(rnd.Intn(2)), Seq: uint64(rnd.Intn(2))}
			from := good
			if rnd.Intn(4) == 0 {
				from = all
			}
			var ranges []api.Range
			for range rnd.Intn(4) {
				ranges = append(ranges, from[rnd.Intn(len(from))])
			}
			if rnd.Intn(3) == 0 {
				release(t, &l, m, x, api.Txn{Seq: uint64(rnd.Intn(3))})
			}
			are(t, "P11.3: Rivals", l.Rivals(x, ranges...), m.rivals(x, ranges)...)
			answers(t, "P11.1: Ask", l.Ask(x, ranges...), m.ask(x, ranges))
			compare(t, &l, m)
		}
	}
}

func release(t *testing.T, l *lock.Table, m model, txns ...api.Txn) {
	t.Helper()
	ahead := len(m)
	for _, x := range txns {
		delete(m, x)
	}
	if n := l.Release(txns...); n != ahead-len(m) {
		t.Fatalf("P11.1: Release = %d, want %d", n, ahead-len(m))
	}
}

func compare(t *testing.T, l *lock.Table, m model) {
	t.Helper()
	txns := slices.SortedFunc(maps.Keys(m), lock.Compare)
	are(t, "P11.1: All", l.All(), txns...)
	for i, x := range txns {
		holds(t, l, x, m[x]...)
		for _, y := range txns[:i] {
			for _, a := range l.Held(x) {
				if slices.ContainsFunc(l.Held(y), func(b api.Range) bool { return clashes(a, b) }) {
					t.Fatalf("P11.2: %v and %v hold ranges that clash", x, y)
				}
			}
		}
	}
	if t.Failed() {
		t.FailNow()
	}
}

// smear writes over bytes and their spare room.
func smear(b []byte) {
	b = b[:cap(b)]
	for i := range b {
		b[i] = '!'
	}
}

func TestMemory(t *testing.T) { // P11.5
	room := []byte("abcdefgh")
	ranges := append(make([]api.Range, 0, 4), api.Range{From: room[0:1], To: room[2:3]}, api.Range{From: room[4:5], To: room[6:7], Excl: true})
	txns := append(make([]api.Txn, 0, 4), txn(7), txn(8))
	var l lock.Table
	l.Ask(txn(1), ranges...)
	l.Rivals(txn(2), ranges...)
	lock.Clash(ranges[0], ranges[1])
	lock.Covers(ranges[0], ranges[1])
	l.Release(txns...)
	if !bytes.Equal(room, []byte("abcdefgh")) || tell(ranges[:4]) != tell([]api.Range{shared("a", "c"), excl("e", "g"), {}, {}}) {
		t.Errorf("P11.5: a call changed what it was handed: %q, %s", room, tell(ranges[:4]))
	}
	are(t, "P11.5: what was handed to Release", txns[:4], txn(7), txn(8), api.Txn{}, api.Txn{})
	smear(room)
	clear(ranges)
	holds(t, &l, txn(1), shared("a", "c"), excl("e", "g"))

	held, other := l.Held(txn(1)), l.Held(txn(1))
	for _, r := range held {
		smear(r.From)
		smear(r.To)
	}
	if tell(other) != tell([]api.Range{shared("a", "c"), excl("e", "g")}) {
		t.Errorf("P11.5: two answers share memory: %s", tell(other))
	}
	clear(other[:cap(other)])
	holds(t, &l, txn(1), shared("a", "c"), excl("e", "g"))

	l.Ask(txn(2), shared("a", "c"))
	list := l.All()
	clear(list[:cap(list)])
	rivals := l.Rivals(txn(3), excl("", ""))
	clear(rivals[:cap(rivals)])
	are(t, "P11.5: All", l.All(), txn(1), txn(2))
	are(t, "P11.5: Rivals", l.Rivals(txn(3), excl("", "")), txn(1), txn(2))
}
