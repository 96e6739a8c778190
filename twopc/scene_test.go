package twopc_test

import (
	"fmt"
	"testing"

	"groyne/api"
	"groyne/branch"
	"groyne/rec"
	"groyne/shard"
	"groyne/twopc"
)

var x = api.Txn{Boot: 7, Session: 8, Seq: 9}

func get(key string) api.Op        { return api.Op{Kind: api.Get, Key: []byte(key)} }
func put(key, value string) api.Op { return two(api.Put, key, value) }

func two(kind int, key, value string) api.Op {
	return api.Op{Kind: kind, Key: []byte(key), Value: []byte(value)}
}

func scan(from, to string, most int) api.Op {
	return api.Op{Kind: api.Scan, Key: []byte(from), Value: []byte(to), Most: most}
}

func pairs(texts ...string) []api.Pair {
	var list []api.Pair
	for i := 0; i < len(texts); i += 2 {
		list = append(list, api.Pair{Key: []byte(texts[i]), Value: []byte(texts[i+1])})
	}
	return list
}

func splits(texts ...string) [][]byte {
	var list [][]byte
	for _, text := range texts {
		list = append(list, []byte(text))
	}
	return list
}

// What is to be sent.

func work(at int, ops ...api.Op) twopc.Send {
	return twopc.Send{Shard: at, Ask: shard.Ask{Kind: shard.Work, Txn: x, Ops: ops}}
}
func ready(at int) twopc.Send {
	return twopc.Send{Shard: at, Ask: shard.Ask{Kind: shard.Ready, Txn: x}}
}
func single(at int, reply []byte) twopc.Send {
	return twopc.Send{Shard: at, Ask: shard.Ask{Kind: shard.Single, Txn: x, Reply: reply}}
}
func finish(at int, commit bool) twopc.Send {
	return twopc.Send{Shard: at, Ask: shard.Ask{Kind: shard.Finish, Txn: x, Commit: commit}}
}
func settle(at int) twopc.Send {
	return twopc.Send{Shard: at, Ask: shard.Ask{Kind: shard.Settle, Txn: x}}
}

// What shards answer.

func ok(kind int) shard.Answer { return no(kind, api.OK) }

func no(kind int, e api.Errno) shard.Answer {
	return shard.Answer{Kind: kind, Txn: x, Err: e}
}

// worked is the answer to a Work that came to these rows.
func worked(rows ...[]api.Pair) shard.Answer {
	a := ok(shard.Work)
	a.Out = branch.Outcome{Rows: rows, Writes: []api.Write{{Key: []byte("w")}}}
	return a
}

// failed is the answer to a Work that came to an error.
func failed(e api.Errno, at int) shard.Answer {
	a := no(shard.Work, e)
	a.Out = branch.Outcome{Err: e, At: at}
	return a
}

func committed(kind int, reply string) shard.Answer {
	a := ok(kind)
	a.Commit, a.Reply = true, []byte(reply)
	return a
}

// reply is what is replied of these rows, or of an error at a place.
func reply(rows ...[]api.Pair) []byte { return branch.Outcome{Rows: rows}.Reply() }

func errReply(e api.Errno, at int) []byte { return branch.Outcome{Err: e, At: at}.Reply() }

// decide is the record that is wanted.
func decide(commit bool, reply []byte, shards ...int) rec.Rec {
	return rec.Rec{Kind: rec.Decide, Txn: x, Commit: commit, Shards: shards, Reply: reply}
}

var end = rec.Rec{Kind: rec.End, Txn: x}

// looks is all that a coordinator says of itself.
type looks struct {
	wants   int
	record  rec.Rec
	again   []twopc.Send
	reply   []byte
	certain bool
	doubt   bool
	over    bool
}

func look(c *twopc.Coord) looks {
	reply, certain := c.Reply()
	return looks{c.Wants(), c.Record(), c.Retry(), reply, certain, c.Doubt(), c.Over()}
}

// tell tells them; lists that are nil and that are empty are alike.
func (l looks) tell() string {
	return fmt.Sprintf("wants %d, record %+v, reply %q %v, doubt %v, over %v, again %+v", l.wants, l.record, l.reply, l.certain, l.doubt, l.over, l.again)
}

func says(t *testing.T, what string, c *twopc.Coord, want looks) {
	t.Helper()
	if got := look(c).tell(); got != want.tell() {
		t.Errorf("P19.1: %s:\n%s, want\n%s", what, got, want.tell())
	}
}

func sends(t *testing.T, what string, got []twopc.Send, want ...twopc.Send) {
	t.Helper()
	if got, want := fmt.Sprintf("%+v", got), fmt.Sprintf("%+v", want); got != want {
		t.Errorf("P19.1: %s: sent %s, want %s", what, got, want)
	}
}

// asks has a coordinator send just this, and then once more what is unanswered.
func asks(t *testing.T, what string, c *twopc.Coord, got []twopc.Send, want ...twopc.Send) {
	t.Helper()
	sends(t, what, got, want...)
	sends(t, what+", once more", c.Retry(), want...)
}

func ticks(c *twopc.Coord, n int) {
	for range n {
		c.Tick()
	}
}
