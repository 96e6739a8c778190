package dump_test

import (
	"fmt"
	"testing"

	"groyne/api"
	"groyne/drive"
	"groyne/dump"
	"groyne/rec"
	"groyne/store"
	"groyne/vault"
)

func txn(n uint64) api.Txn { return api.Txn{Boot: 1, Seq: n} }

func put(key, value string) api.Write {
	return api.Write{Key: []byte(key), Value: []byte(value)}
}

func gone(key string) api.Write { return api.Write{Key: []byte(key), Gone: true} }

func one(n uint64, writes ...api.Write) rec.Rec {
	return rec.Rec{Kind: rec.One, Txn: txn(n), Writes: writes, Reply: []byte{byte(n)}}
}

// prepare locks what it writes.
func prepare(n uint64, writes ...api.Write) rec.Rec {
	r := rec.Rec{Kind: rec.Prepare, Txn: txn(n), Writes: writes}
	for _, w := range writes {
		r.Ranges = append(r.Ranges, api.Range{From: w.Key, To: append(append([]byte{}, w.Key...), 0), Excl: true})
	}
	return r
}

func commit(n uint64) rec.Rec { return rec.Rec{Kind: rec.Commit, Txn: txn(n)} }

func abort(n uint64) rec.Rec { return rec.Rec{Kind: rec.Abort, Txn: txn(n)} }

func mark(id uint64) rec.Rec { return rec.Rec{Kind: rec.Mark, Id: id, Name: "b"} }

const prefix = "s/"

var plain = store.Options{Hand: 3, Most: 100}

// node is a store beside all records that were ever appended to it.
type node struct {
	*store.Store
	t       *testing.T
	d       *drive.Drive
	records [][]byte
}

// with is a node with these records, appended one by one.
func with(t *testing.T, recs ...rec.Rec) *node {
	t.Helper()
	n := &node{t: t, d: drive.New(1 << 22)}
	n.open()
	for _, r := range recs {
		n.add(r)
	}
	return n
}

func (n *node) open() {
	n.t.Helper()
	s, e := store.Open(n.d, prefix, plain)
	if e != api.OK || s.Next() > uint64(len(n.records)) {
		n.t.Fatalf("Open: %d", e)
	}
	n.Store, n.records = s, n.records[:s.Next()]
}

// add appends records; what a dying drive may have kept of them counts until it is opened again.
func (n *node) add(recs ...rec.Rec) api.Errno {
	n.t.Helper()
	_, e := n.Append(recs...)
	if e != api.OK && e != api.ErrDead {
		n.t.Fatalf("Append: %d", e)
	}
	for _, r := range recs {
		n.records = append(n.records, r.Bytes())
	}
	return e
}

func (n *node) crash(keep int) {
	n.t.Helper()
	n.d.Crash(keep)
	n.open()
}

// at is the store as it was ahead of the record with this index.
func (n *node) at(index uint64) string {
	n.t.Helper()
	was := with(n.t)
	for _, record := range n.records[:index] {
		r, _ := rec.Read(record)
		was.add(r)
	}
	return tell(n.t, was.Store)
}

// tell tells all that is known of a store.
func tell(t *testing.T, s *store.Store) string {
	t.Helper()
	pairs, e := s.Scan(nil, nil, 0)
	if e != api.OK || s.Check() != api.OK {
		t.Fatalf("Scan: %d; the tree isn't sound", e)
	}
	out := fmt.Sprintf("next %d, %q, %q", s.Next(), pairs, s.Dump())
	for _, x := range s.Locks().All() {
		out += fmt.Sprintf(", %v has %v", x, s.Locks().Held(x))
	}
	return out
}

func shelf() vault.Shelf { return vault.Shelf{Vault: vault.New(), Prefix: "n/"} }

func answers(t *testing.T, what string, got, want api.Errno) {
	t.Helper()
	if got != want {
		t.Errorf("%s: %d, want %d", what, got, want)
	}
}

func begins(t *testing.T, n *node, v vault.Shelf, id uint64) {
	t.Helper()
	answers(t, fmt.Sprintf("Begin(%d)", id), dump.Begin(n.Store, v, id), api.OK)
}

func steps(t *testing.T, n *node, v vault.Shelf, id uint64, most int, want bool) {
	t.Helper()
	if done, e := dump.Step(n.Store, v, id, most); done != want || e != api.OK {
		t.Errorf("Step(%d, %d) = %v, %d, want %v", id, most, done, e, want)
	}
}

// restored is a store on a new drive, which is the same behind a crash.
func restored(t *testing.T, v vault.Shelf, b dump.Base, records ...[]byte) *store.Store {
	t.Helper()
	d := drive.New(1 << 22)
	s, e := dump.Restore(d, prefix, plain, v, b, records...)
	if e != api.OK || s == nil {
		t.Fatalf("Restore(%v): %d", b, e)
	}
	told, queue := tell(t, s), d.Queue()
	d.Crash(0)
	again, e := store.Open(d, prefix, plain)
	if e != api.OK || tell(t, again) != told {
		t.Fatalf("Restore(%v): behind a crash it isn't the same: %d; the queue had %d", b, e, queue)
	}
	return again
}

// copies tells the keys and values of a backup without any records behind it.
func copies(t *testing.T, v vault.Shelf, id uint64) string {
	t.Helper()
	for _, b := range dump.Finished(v) {
		if b.Id == id {
			pairs, _ := restored(t, v, b).Scan(nil, nil, 0)
			out := ""
			for _, p := range pairs {
				out += fmt.Sprintf("%s=%s ", p.Key, p.Value)
			}
			return out
		}
	}
	return "none"
}

// whole looks whether a finished backup makes the store as it was at each index from its end on.
func (n *node) whole(v vault.Shelf, b dump.Base) {
	n.t.Helper()
	for at := b.To; at <= n.Next(); at++ {
		if got, want := tell(n.t, restored(n.t, v, b, n.records[b.From:at]...)), n.at(at); got != want {
			n.t.Fatalf("P15.2: %v, up to %d: the store is\n%s, not\n%s", b, at, got, want)
		}
	}
}
