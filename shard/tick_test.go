package shard_test

import (
	"fmt"
	"slices"
	"testing"

	"groyne/api"
	"groyne/dump"
	"groyne/parity"
	"groyne/seg"
	"groyne/shard"
	"groyne/vault"
)

// ticks tells for whom a Tick asks.
func (n *node) ticks(what string, want ...uint64) {
	n.t.Helper()
	list, e := n.Tick()
	var wanted []shard.Doubt
	for _, x := range want {
		wanted = append(wanted, shard.Doubt{Inc: n.Inc(), Boot: n.Boot(), Txn: txn(x)})
	}
	if e != api.OK || !slices.Equal(list, wanted) {
		n.t.Errorf("P17.5: %s: %v, %d, want %v", what, list, e, wanted)
	}
}

// commits has a One put so many pairs, one each.
func (n *node) commits(from, to uint64) {
	n.t.Helper()
	for x := from; x < to; x++ {
		n.ask(work(x, put(fmt.Sprintf("key%03d", x), fmt.Sprint(x))))
		n.says("Single", single(x, "r"), committed("r"))
	}
}

// prepares has branches prepared that lock keys of their own.
func (n *node) prepares(list ...uint64) {
	n.t.Helper()
	for _, x := range list {
		n.ask(work(x, put(fmt.Sprint("p", x), "1")))
		n.says("Ready", ready(x), ok())
	}
}

func TestDoubts(t *testing.T) { // P17.5
	o := plain
	o.Patience = 3
	n := newNode(t, o)
	n.ticks("nobody")
	n.prepares(9, 1)
	n.ask(work(7, put("a", "1"))) // isn't prepared
	n.ticks("1")
	n.prepares(2)
	n.ticks("2")
	n.ticks("3", 1, 9)
	n.ticks("4", 2)
	n.prepares(3)
	n.ticks("5")
	n.ask(finish(1, true))
	n.ticks("6", 9)
	n.ticks("7: one was finished", 2, 3)
	n.ask(settle(9))
	n.ticks("8: another one was settled")
	n.crash(0)
	n.ticks("behind a crash, 1")
	n.ticks("behind a crash, 2")
	n.ticks("behind a crash, 3", 2, 3)
}

func TestPatience(t *testing.T) { // P17.5
	for patience, want := range map[int]string{-5: "[1 2 3 4 5 6]", 0: "[1 2 3 4 5 6]", 1: "[1 2 3 4 5 6]", 2: "[2 4 6]", 4: "[4]"} {
		o := plain
		o.Patience = patience
		n := newNode(t, o)
		n.prepares(1)
		var asked []int
		for tick := 1; tick < 7; tick++ {
			if list, _ := n.Tick(); len(list) == 1 {
				asked = append(asked, tick)
			}
		}
		if fmt.Sprint(asked) != want {
			t.Errorf("P17.5: with a patience of %d it is asked at %v", patience, asked)
		}
	}
}

func TestShipping(t *testing.T) { // P17.5
	n := newNode(t, plain)
	n.commits(0, 6)
	n.ask(mark(1))
	n.commits(6, 7)
	if n.v.Count() != 0 {
		t.Fatalf("P17.5: the vault has %q", n.v.List(""))
	}
	n.ticks("shipping")
	spans := n.Log().Spans()
	if got := seg.Reach(n.shelf(), 0); got != 7 || len(seg.Spans(n.shelf())) != len(spans)-1 {
		t.Errorf("P17.5: %v of %v were shipped", seg.Spans(n.shelf()), spans)
	}
	records, e := seg.Fetch(n.shelf(), 0, 7)
	if own, _ := n.Log().Records(0, 7); e != api.OK || fmt.Sprint(records) != fmt.Sprint(own) {
		t.Errorf("P17.5: what was shipped isn't the log: %d", e)
	}
	for _, name := range n.v.List("") {
		if name[:20] != "n0/0000000000000003/" {
			t.Errorf("P17.5: %q is in the vault", name)
		}
	}
}

func TestBackups(t *testing.T) { // P17.5
	n := newNode(t, plain)
	n.commits(0, 20)
	answers(t, "Backup", n.Backup(5), api.OK)
	n.says("Copy", backup(2), ok())
	answers(t, "Backup", n.Backup(5), api.ErrThere)
	answers(t, "Backup", n.Backup(2), api.ErrThere)
	for tick, open := range []string{"[2 5]", "[2 5]", "[5]", "[5]", "[5]", "[]", "[]"} {
		n.ticks("copying")
		if got := fmt.Sprint(dump.Open(n.shelf())); got != open {
			t.Errorf("P17.5: behind tick %d %s are open", tick+1, got)
		}
		if tick == 0 {
			n.crash(0) // it goes on
		}
	}
	if got := fmt.Sprint(dump.Finished(n.shelf())); got != "[{2 20 20} {5 20 20}]" {
		t.Errorf("P17.5: %s are finished", got)
	}
}

func TestSteps(t *testing.T) { // P17.5: a step is of eight pairs
	n := newNode(t, plain)
	n.commits(0, 17)
	n.Backup(1)
	n.ticks("1")
	n.ticks("2")
	if len(dump.Finished(n.shelf())) > 0 {
		t.Error("P17.5: 17 pairs were copied in two ticks")
	}
	n.ticks("3")
	if len(dump.Finished(n.shelf())) != 1 {
		t.Error("P17.5: 17 pairs weren't copied in three ticks")
	}
	n.ask(work(50, del("key000")))
	n.ask(single(50, "r"))
	n.Backup(2)
	n.ticks("4")
	n.ticks("5")
	if len(dump.Finished(n.shelf())) != 2 {
		t.Error("P17.5: 16 pairs weren't copied in two ticks")
	}
}

func TestTickGoesOnBesideErrors(t *testing.T) { // P17.5: ErrDead alone is told
	o := plain
	o.Patience, o.Every = 1, 1
	n := newNode(t, o)
	n.commits(0, 3)
	n.Log().Close()
	n.prepares(50)
	n.Backup(1)
	begin := n.v.List("")[0]
	n.v.Put(begin[:len(begin)-len(".begin")]+".piece.0000000000000000", parity.Wrap(nil)) // a step is refused
	n.v.Put("n0/0000000000000003/seg.0000000000000000", []byte("another"))                // and so is a segment
	ahead := things(n.v)
	n.ticks("all is refused but the drive", 50)
	if things(n.v) != ahead || len(n.d.List("s/tree/")) == 0 {
		t.Errorf("P17.5: the vault has\n%s, the drive %q", things(n.v), n.d.List(""))
	}
	if n.Log().First() != 0 {
		t.Error("P17.5: what wasn't shipped is gone from the log")
	}
}

// saved is what the last checkpoint left on the drive.
func (n *node) saved() string {
	out := ""
	for _, name := range n.d.List("s/tree/") {
		b, _ := n.d.Read(name)
		out += fmt.Sprintf("%q: %x\n", name, b)
	}
	return out
}

func TestCheckpoints(t *testing.T) { // P17.5
	for every, want := range map[int]string{-1: "[]", 0: "[]", 1: "[0 1 2 3 4 5 6 7 8 9]", 3: "[2 5 8]", 4: "[3 7]", 99: "[]"} {
		o := plain
		o.Every = every
		n := newNode(t, o)
		var made []uint64
		for x := range uint64(10) {
			n.commits(x, x+1)
			for range 2 { // the second one has nothing new
				ahead := n.saved()
				n.ticks("a checkpoint")
				if n.saved() != ahead {
					made = append(made, x)
				}
			}
		}
		if fmt.Sprint(made) != want {
			t.Errorf("P17.5: each %d records there is a checkpoint: %v, not %s", every, made, want)
		}
	}
}

func TestCheckpointsCountFromTheOpening(t *testing.T) { // P17.5
	o := plain
	o.Every = 3
	n := newNode(t, o)
	n.commits(0, 2)
	n.crash(0)
	n.commits(2, 3)
	n.ticks("one since it was opened")
	if n.saved() != "" {
		t.Error("P17.5: a checkpoint was made too early")
	}
	n.commits(3, 9)
	n.ticks("more than enough")
	if n.saved() == "" {
		t.Error("P17.5: no checkpoint was made")
	}
}

func TestWhatStaysInTheLog(t *testing.T) { // P17.5: what isn't in the archive
	o := plain
	o.Every = 1
	n := newNode(t, o)
	lose := func(from uint64) {
		t.Helper()
		if n.v.Lose("n0/0000000000000003/man."+vault.Number(from)) != 1 {
			t.Fatalf("nothing from %d on: %q", from, n.v.List(""))
		}
	}
	for x := range uint64(6) {
		n.commits(x, x+1)
		n.Log().Close()
	}
	n.ticks("shipping, and a checkpoint")
	if n.Log().First() != 5 { // a log keeps its last file
		t.Errorf("P17.5: the log begins at %d", n.Log().First())
	}
	lose(2)
	lose(5)
	n.commits(6, 8)
	n.ticks("what was lost behind it isn't wanted; its last file is shipped again")
	if n.Log().First() < 6 || seg.Reach(n.shelf(), 5) < 6 {
		t.Errorf("P17.5: the log begins at %d", n.Log().First())
	}
	o.Every = 0
	n.o = o
	n.crash(0)
	first, next := n.Log().First(), n.Next()
	n.commits(8, 9)
	n.Log().Close()
	n.ticks("no checkpoint")
	if n.Log().First() != first || seg.Reach(n.shelf(), first) != next+1 {
		t.Errorf("P17.5: the log begins at %d", n.Log().First())
	}
}

func TestCheckpointsWithoutRoom(t *testing.T) { // P17.5: one that failed isn't one
	o := plain
	o.Every = 2
	n := newNode(t, o)
	n.commits(0, 2)
	n.d.Append("x", make([]byte, 1<<22-n.d.Used()))
	ahead := n.look()
	for range 3 {
		n.ticks("without room")
	}
	if n.saved() != "" || n.look() != ahead {
		t.Errorf("P17.5: something happened: %s", n.look())
	}
	n.d.Remove("x")
	n.ticks("with room")
	if n.saved() == "" {
		t.Error("P17.5: no checkpoint was made")
	}
}

func TestTickDies(t *testing.T) { // P17.5
	o := plain
	o.Patience, o.Every = 1, 1
	n := newNode(t, o)
	n.commits(0, 3)
	n.Log().Close()
	n.prepares(50)
	n.Backup(1)
	for deeds := 0; ; deeds++ {
		one := &node{t: t, d: n.d.Twin(), v: shelves(), o: o, head: 1}
		one.open()
		one.commits(60, 62)
		ahead := one.look()
		one.d.Arm(deeds)
		list, e := one.Tick()
		if e == api.OK {
			if len(list) != 1 || deeds < 3 {
				t.Errorf("P17.5: %d deeds, %v", deeds, list)
			}
			break
		}
		if e != api.ErrDead || list != nil {
			t.Fatalf("P17.5: cut at %d: %v, %d", deeds, list, e)
		}
		for keep := range 40 {
			again := &node{t: t, d: one.d.Twin(), v: one.v, o: o}
			if again.crash(37 * keep); again.look() != ahead {
				t.Fatalf("P17.5: cut at %d, %d kept: %s", deeds, 37*keep, again.look())
			}
		}
	}
	n.d.Arm(0)
	n.d.Flush()
	vaultAhead := things(n.v)
	if list, e := n.Tick(); e != api.ErrDead || list != nil || things(n.v) != vaultAhead {
		t.Errorf("P17.5: a dead drive: %v, %d", list, e)
	}
	answers(t, "Backup on a dead drive", n.Backup(9), api.ErrDead)
}
