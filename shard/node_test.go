package shard_test

import (
	"fmt"
	"testing"

	"groyne/api"
	"groyne/branch"
	"groyne/drive"
	"groyne/rec"
	"groyne/shard"
	"groyne/store"
	"groyne/vault"
)

func txn(n uint64) api.Txn { return api.Txn{Boot: 1, Seq: n} }

func get(key string) api.Op        { return api.Op{Kind: api.Get, Key: []byte(key)} }
func put(key, value string) api.Op { return two(api.Put, key, value) }
func del(key string) api.Op        { return api.Op{Kind: api.Del, Key: []byte(key)} }
func absent(key string) api.Op     { return api.Op{Kind: api.Absent, Key: []byte(key)} }
func expect(key, v string) api.Op  { return two(api.Expect, key, v) }

func two(kind int, key, value string) api.Op {
	return api.Op{Kind: kind, Key: []byte(key), Value: []byte(value)}
}

func scan(from, to string, most int) api.Op {
	return api.Op{Kind: api.Scan, Key: []byte(from), Value: []byte(to), Most: most}
}

// Asks, of which a node fills in whom they come from and go to.
func work(n uint64, ops ...api.Op) shard.Ask {
	return shard.Ask{Kind: shard.Work, Txn: txn(n), Ops: ops}
}
func ready(n uint64) shard.Ask { return shard.Ask{Kind: shard.Ready, Txn: txn(n)} }
func single(n uint64, reply string) shard.Ask {
	return shard.Ask{Kind: shard.Single, Txn: txn(n), Reply: []byte(reply)}
}
func finish(n uint64, commit bool) shard.Ask {
	return shard.Ask{Kind: shard.Finish, Txn: txn(n), Commit: commit}
}
func mark(id uint64) shard.Ask  { return shard.Ask{Kind: shard.Mark, Id: id, Name: "b"} }
func settle(n uint64) shard.Ask { return shard.Ask{Kind: shard.Settle, Txn: txn(n)} }
func backup(id uint64) shard.Ask {
	return shard.Ask{Kind: shard.Copy, Id: id}
}

var plain = shard.Options{Options: store.Options{Hand: 3, Most: 200}, Patience: 2, Every: 0}

// node is a shard with its drive, its vault, and the boot of the head that asks it.
type node struct {
	*shard.Shard
	t    *testing.T
	d    *drive.Drive
	v    vault.Shelf
	o    shard.Options
	head uint64
}

func newNode(t *testing.T, o shard.Options) *node { return newNodeIn(t, o, 1<<22) }

func newNodeIn(t *testing.T, o shard.Options, room int) *node {
	t.Helper()
	n := &node{t: t, d: drive.New(room), v: vault.Shelf{Vault: vault.New(), Prefix: "n0/"}, o: o, head: 1}
	answers(t, "Format", shard.Format(n.d, 3, o), api.OK)
	n.open()
	return n
}

func (n *node) open() {
	n.t.Helper()
	s, e := shard.Open(n.d, n.v, n.o)
	if e != api.OK || s == nil {
		n.t.Fatalf("Open: %d", e)
	}
	n.Shard = s
}

func (n *node) crash(keep int) {
	n.t.Helper()
	n.d.Crash(keep)
	n.open()
}

// shelf is where the node's archive and backups lie.
func (n *node) shelf() vault.Shelf { return shard.Shelf(n.v, n.Inc()) }

// to fills in an ask what the head says of itself and of the shard.
func (n *node) to(a shard.Ask) shard.Ask {
	a.Inc, a.Head, a.Boot = n.Inc(), n.head, n.Boot()
	return a
}

func (n *node) ask(a shard.Ask) shard.Answer {
	n.t.Helper()
	y, e := n.Do(n.to(a))
	if e != api.OK {
		n.t.Fatalf("Do(%d): %d", a.Kind, e)
	}
	return y
}

// says asks, and looks whether the answer is just this, beside what all answers have.
func (n *node) says(what string, a shard.Ask, want shard.Answer) {
	n.t.Helper()
	want.Kind, want.Txn, want.Id, want.Inc, want.Boot = a.Kind, a.Txn, a.Id, n.Inc(), n.Boot()
	if got, want := tell(n.ask(a)), tell(want); got != want {
		n.t.Errorf("P17.2: %s:\n%s, want\n%s", what, got, want)
	}
}

func ok() shard.Answer                 { return shard.Answer{} }
func refused(e api.Errno) shard.Answer { return shard.Answer{Err: e} }
func outcome(e api.Errno, at int) shard.Answer {
	return shard.Answer{Err: e, Out: branch.Outcome{Err: e, At: at}}
}

// rows are what a Work is answered that only reads.
func rows(rows ...[]api.Pair) shard.Answer {
	return shard.Answer{Out: branch.Outcome{Rows: rows}}
}

func pairs(texts ...string) []api.Pair {
	var list []api.Pair
	for i := 0; i < len(texts); i += 2 {
		list = append(list, api.Pair{Key: []byte(texts[i]), Value: []byte(texts[i+1])})
	}
	return list
}

func write(key, value string) api.Write {
	return api.Write{Key: []byte(key), Value: []byte(value)}
}

// tell tells an answer; lists that are nil and that are empty are alike.
func tell(y shard.Answer) string { return fmt.Sprintf("%+v", y) }

// look tells all that lies in a node's store, and its locks.
func (n *node) look() string {
	n.t.Helper()
	list, e := n.Scan(nil, nil, 0)
	if e != api.OK || n.Check() != api.OK {
		n.t.Fatalf("Scan: %d; the tree isn't sound", e)
	}
	out := fmt.Sprintf("next %d, %q, %q", n.Next(), list, n.Dump())
	for _, x := range n.Locks().All() {
		out += fmt.Sprintf(", %v has %v", x, n.Locks().Held(x))
	}
	return out
}

// logged answers the records of a node's log.
func (n *node) logged() []rec.Rec {
	n.t.Helper()
	texts, e := n.Log().Records(n.Log().First(), n.Next())
	if e != api.OK {
		n.t.Fatalf("Records: %d", e)
	}
	var list []rec.Rec
	for _, text := range texts {
		r, e := rec.Read(text)
		if e != api.OK {
			n.t.Fatalf("Read: %d", e)
		}
		list = append(list, r)
	}
	return list
}

// things tells all that lies in a vault.
func things(v vault.Shelf) string {
	out := ""
	for _, name := range v.List("") {
		b, _ := v.Get(name)
		out += fmt.Sprintf("%q: %x\n", name, b)
	}
	return out
}

// files tells what lies on a drive.
func files(d *drive.Drive) string {
	out := ""
	for _, name := range d.List("") {
		b, _ := d.Read(name)
		out += fmt.Sprintf("%q: %x\n", name, b)
	}
	return out
}

func answers(t *testing.T, what string, got, want api.Errno) {
	t.Helper()
	if got != want {
		t.Errorf("%s: %d, want %d", what, got, want)
	}
}
