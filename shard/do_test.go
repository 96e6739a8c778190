package shard_test

import (
	"fmt"
	"math"
	"slices"
	"strings"
	"testing"

	"groyne/api"
	"groyne/branch"
	"groyne/rec"
	"groyne/shard"
)

// gone leaves an answer's Out aside; a transaction is unknown, or over.
var gone = refused(api.ErrGone)

func committed(reply string) shard.Answer {
	return shard.Answer{Commit: true, Reply: []byte(reply)}
}

// wrote is what a Work is answered that writes one pair.
func wrote(key, value string) shard.Answer {
	return shard.Answer{Out: branch.Outcome{Rows: [][]api.Pair{nil}, Writes: []api.Write{write(key, value)}}}
}

func TestExample(t *testing.T) { // the chapter's example 1
	n := newNode(t, plain)
	n.says("Hello", shard.Ask{Kind: shard.Hello}, ok())
	n.says("Work", work(1, put("a", "1")), wrote("a", "1"))
	n.says("a lock", work(2, get("a")), outcome(api.ErrLocked, 0))
	n.says("Ready", ready(1), ok())
	n.crash(0)
	old := n.to(work(2, get("a")))
	old.Boot = 1
	if y, e := n.Do(old); y.Err != api.ErrGone || e != api.OK || n.Boot() != 2 {
		t.Errorf("P17.2: an old boot: %v, %d", y, e)
	}
	n.says("a lock that came back", work(2, get("a")), outcome(api.ErrLocked, 0))
	n.says("Finish", finish(1, true), ok())
	n.says("Get", work(3, get("a")), rows(pairs("a", "1")))
}

func TestRefusals(t *testing.T) { // P17.2
	n := newNode(t, plain)
	hello := n.to(shard.Ask{Kind: shard.Hello, Txn: txn(7), Id: 9})
	do := func(what string, change func(a *shard.Ask), want api.Errno) {
		t.Helper()
		a := hello
		change(&a)
		y, e := n.Do(a)
		told := tell(shard.Answer{Kind: a.Kind, Txn: txn(7), Id: 9, Inc: 3, Boot: 1, Err: want})
		if e != api.OK || tell(y) != told {
			t.Errorf("P17.2: %s: %s, %d, want %s", what, tell(y), e, told)
		}
	}
	do("an older incarnation", func(a *shard.Ask) { a.Inc, a.Head = 2, 99 }, api.ErrStaleIncarnation)
	if n.Stale() || n.Sure() {
		t.Error("P17.2: it is Stale, or Sure, by an older incarnation")
	}
	do("its own", func(a *shard.Ask) { a.Head = 5 }, api.OK)
	if n.Stale() || !n.Sure() {
		t.Error("P17.2: it isn't Sure by its own incarnation")
	}
	do("the same boot of the head", func(a *shard.Ask) { a.Head = 5 }, api.OK)
	do("an older one", func(a *shard.Ask) { a.Head = 4 }, api.ErrOld)
	do("an older one, with no kind", func(a *shard.Ask) { a.Kind, a.Head = 0, 4 }, api.ErrOld)
	do("an older one of an older incarnation", func(a *shard.Ask) { a.Inc, a.Head = 0, 4 }, api.ErrStaleIncarnation)
	for _, kind := range []int{0, 9, -1, math.MaxInt, math.MinInt} {
		do("no kind", func(a *shard.Ask) { a.Kind, a.Head = kind, 6 }, api.ErrForm)
	}
	do("older than what no kind said", func(a *shard.Ask) { a.Head = 5 }, api.ErrOld)
	do("the greatest", func(a *shard.Ask) { a.Head = math.MaxUint64 }, api.OK)
	n.crash(0)
	if n.Sure() {
		t.Error("P17.2: it is Sure behind a crash")
	}
	if y, _ := n.Do(hello); y.Err != api.OK || y.Boot != 2 {
		t.Errorf("P17.2: behind a crash nothing is heard: %v", y)
	}
}

func TestAnOlderHeadDoesntMakeSure(t *testing.T) { // P17.2
	n := newNode(t, plain)
	n.Do(shard.Ask{Kind: shard.Hello, Inc: 2})
	n.Do(shard.Ask{Kind: shard.Hello, Inc: 4})
	if n.Sure() || !n.Stale() {
		t.Error("P17.2: it is Sure by others' asks")
	}
	n.Do(n.to(shard.Ask{Kind: shard.Hello}))
	if n.Sure() {
		t.Error("P17.2: one that is Stale is Sure by an ask that it refuses")
	}
}

func TestANewHead(t *testing.T) { // P17.2: what isn't prepared is gone
	n := newNode(t, plain)
	n.ask(work(1, put("a", "1")))
	n.ask(ready(1))
	n.ask(work(2, put("b", "2")))
	n.ask(work(3, scan("c", "", 9)))
	n.ask(work(4, put("a", "4"))) // over
	n.says("the same head", work(5, put("b", "5")), outcome(api.ErrLocked, 0))
	n.head++
	n.says("Ready of one that is gone", ready(2), gone)
	n.says("Single of another one", single(3, ""), gone)
	n.says("its locks are gone", work(6, put("b", "6"), put("d", "6")), shard.Answer{Out: branch.Outcome{Rows: [][]api.Pair{nil, nil}, Writes: []api.Write{write("b", "6"), write("d", "6")}}})
	n.says("what is prepared stays", work(7, get("a")), outcome(api.ErrLocked, 0))
	n.says("and is known", work(1, put("a", "1")), gone)
	n.says("what is over stays so", work(4, put("z", "4")), gone)
	n.says("what is gone may come again", work(2, put("e", "2")), wrote("e", "2"))
	n.says("it was prepared", finish(1, true), ok())
	n.says("and is committed", work(8, get("a")), rows(pairs("a", "1")))
}

func TestWork(t *testing.T) { // P17.2
	n := newNode(t, plain)
	long := strings.Repeat("k", api.MaxKey+1)
	n.says("nothing to do", work(1), rows())
	n.says("too long", work(2, get("a"), get(long)), outcome(api.ErrSize, 0))
	n.says("too many", work(3, slices.Repeat([]api.Op{get("a")}, 17)...), outcome(api.ErrSize, 0))
	n.says("no kind", work(4, get("a"), api.Op{}), outcome(api.ErrForm, 0))
	n.says("Most", work(5, get("a"), scan("", "", 33)), outcome(api.ErrArg, 0))
	n.says("a write", work(6, absent("a"), put("a", "1"), get("a")), shard.Answer{Out: branch.Outcome{Rows: [][]api.Pair{nil, nil, pairs("a", "1")}, Writes: []api.Write{write("a", "1")}}})
	n.says("once more, whatever it does now", work(6, get("q")), shard.Answer{Out: branch.Outcome{Rows: [][]api.Pair{nil, nil, pairs("a", "1")}, Writes: []api.Write{write("a", "1")}}})
	n.says("what isn't in form is told ahead of locks", work(7, get("a"), get(long)), outcome(api.ErrSize, 0))
	n.says("the place of a lock", work(8, get("b"), del("c"), scan("", "", 9), get("a")), outcome(api.ErrLocked, 2))
	n.says("a lock ahead of what doesn't hold", work(9, expect("b", "1"), get("a")), outcome(api.ErrLocked, 1))
	n.says("what doesn't hold", work(10, get("b"), expect("b", "1")), outcome(api.ErrGuard, 1))
	for _, over := range []uint64{2, 3, 4, 5, 7, 8, 9, 10} {
		n.says("one that is over", work(over, get("z")), gone)
		n.says("one that is over", ready(over), gone)
		n.says("one that is over", single(over, ""), gone)
	}
	if got := fmt.Sprint(n.Locks().All()); got != fmt.Sprint([]api.Txn{txn(1), txn(6)}) {
		t.Errorf("P17.2: locks are held by %s", got)
	}
	n.says("several read", work(11, get("b"), scan("b", "c", 3)), rows(nil, nil))
	n.says("several read", work(12, get("b"), absent("b")), rows(nil, nil))
	n.says("none writes", work(13, put("b", "")), outcome(api.ErrLocked, 0))
	n.says("Single", single(6, "r"), committed("r"))
	n.says("known to the store", work(6, get("q")), gone)
	n.says("Ready of what is done", ready(6), gone)
	n.says("what was written", work(14, get("a"), scan("", "b", 9)), rows(pairs("a", "1"), pairs("a", "1")))
}

func TestOldBoots(t *testing.T) { // P17.2
	n := newNode(t, plain)
	n.crash(0)
	n.ask(work(1, put("a", "1")))
	n.ask(work(2, put("b", "2")))
	n.ask(ready(2))
	n.ask(work(3, put("c", "3")))
	n.ask(single(3, "r"))
	for _, boot := range []uint64{0, 1, 3} {
		for what, c := range map[string]struct {
			ask  shard.Ask
			want shard.Answer
		}{
			"Hello":                   {shard.Ask{Kind: shard.Hello}, ok()},
			"Work":                    {work(9, get("z")), gone},
			"Work again":              {work(1, put("a", "1")), gone},
			"Ready":                   {ready(1), gone},
			"Ready of a prepared one": {ready(2), ok()},
			"Single":                  {single(1, "q"), gone},
			"Single of a One":         {single(3, "q"), committed("r")},
			"Settle":                  {settle(3), committed("r")},
		} {
			a := n.to(c.ask)
			a.Boot = boot
			y, e := n.Do(a)
			want := c.want
			want.Kind, want.Txn, want.Inc, want.Boot = a.Kind, a.Txn, 3, 2
			if e != api.OK || tell(y) != tell(want) {
				t.Errorf("P17.2: %s, boot %d: %s, %d", what, boot, tell(y), e)
			}
		}
	}
	n.says("Ready of its own boot", ready(1), ok())
	n.says("an old boot doesn't make it over", work(9, get("z")), rows(nil))
}

func TestReady(t *testing.T) { // P17.2
	n := newNode(t, plain)
	n.says("unknown", ready(1), gone)
	n.ask(work(1, put("a", "1"), del("b"), get("a"), scan("c", "d", 2)))
	for range 3 {
		n.says("Ready", ready(1), ok())
	}
	want := rec.Rec{Kind: rec.Prepare, Txn: txn(1), Writes: []api.Write{write("a", "1"), {Key: []byte("b"), Gone: true}}, Ranges: branch.Locks(put("a", "1"), del("b"), get("a"), scan("c", "d", 2))}
	if got := n.logged(); len(got) != 1 || fmt.Sprintf("%q", got[0].Bytes()) != fmt.Sprintf("%q", want.Bytes()) {
		t.Errorf("P17.2: the log has %+v", got)
	}
	n.says("Work of a prepared one", work(1, put("a", "1")), gone)
	n.says("Single of a prepared one", single(1, "r"), gone)
	n.crash(0)
	n.says("behind a crash", ready(1), ok())
	n.says("Single of a prepared one", single(1, "r"), gone)
	if len(n.logged()) != 1 {
		t.Errorf("P17.2: the log has %+v", n.logged())
	}
	n.says("its locks are there", work(2, put("c1", "")), outcome(api.ErrLocked, 0))
}

func TestSingle(t *testing.T) { // P17.2
	n := newNode(t, plain)
	n.says("unknown", single(1, "r"), gone)
	n.ask(work(1, put("a", "1"), get("b")))
	for _, reply := range []string{"r", "another", ""} {
		n.says("Single", single(1, reply), committed("r"))
	}
	want := rec.Rec{Kind: rec.One, Txn: txn(1), Writes: []api.Write{write("a", "1")}, Reply: []byte("r")}
	if got := n.logged(); len(got) != 1 || fmt.Sprintf("%q", got[0].Bytes()) != fmt.Sprintf("%q", want.Bytes()) {
		t.Errorf("P17.2: the log has %+v", got)
	}
	if n.Locks().All() != nil {
		t.Errorf("P17.2: locks are left: %v", n.Locks().All())
	}
	n.ask(work(2, get("a")))
	n.says("without writes and a reply", single(2, ""), committed(""))
	n.ask(work(3, put("b", "3")))
	n.ask(ready(3))
	n.ask(finish(3, true))
	n.says("committed, but by no One", single(3, "r"), gone)
	n.crash(0)
	n.says("behind a crash", single(1, "q"), committed("r"))
	n.says("behind a crash", single(2, "q"), committed(""))
	n.says("behind a crash", single(3, "q"), gone)
}

func TestFinish(t *testing.T) { // P17.2
	n := newNode(t, plain)
	for x, commit := range []bool{false, true} {
		x := uint64(10 * x)
		n.says("unknown", finish(x+1, commit), ok())
		n.says("is over", work(x+1, get("a")), gone)
		n.ask(work(x+2, put("a", "2")))
		n.says("not prepared", finish(x+2, commit), ok())
		n.says("is over", ready(x+2), gone)
		n.says("is over", work(x+2), gone)
		if len(n.Locks().All()) != 0 {
			t.Errorf("P17.2: locks are left: %v", n.Locks().All())
		}
	}
	if len(n.logged()) != 0 {
		t.Fatalf("P17.2: the log has %+v", n.logged())
	}
	n.ask(work(3, put("a", "3")))
	n.ask(ready(3))
	n.says("commit", finish(3, true), ok())
	n.ask(work(4, put("a", "4")))
	n.ask(ready(4))
	n.says("give up", finish(4, false), ok())
	for _, commit := range []bool{false, true} {
		n.says("done", finish(3, commit), ok())
		n.says("done", finish(4, commit), ok())
	}
	var kinds []int
	for _, r := range n.logged() {
		kinds = append(kinds, r.Kind)
	}
	if !slices.Equal(kinds, []int{rec.Prepare, rec.Commit, rec.Prepare, rec.Abort}) {
		t.Errorf("P17.2: the log has %v", kinds)
	}
	n.says("is over", work(4), gone)
	n.says("is over", ready(4), gone)
	n.crash(0)
	n.says("is known", work(4), gone)
	n.says("was over, and isn't any more", work(2, get("a")), rows(pairs("a", "3")))
}

func TestMark(t *testing.T) { // P17.2
	n := newNode(t, plain)
	n.ask(work(1))
	n.ask(single(1, ""))
	at := func(at uint64) shard.Answer { return shard.Answer{At: at} }
	n.says("Mark", mark(7), at(1))
	if n.Log().Closed() != 2 || n.d.Queue() != 0 {
		t.Errorf("P17.2: the log isn't closed: %d", n.Log().Closed())
	}
	n.says("again", mark(7), at(1))
	n.says("another one", mark(0), at(2))
	again := mark(7)
	again.Name = "other"
	n.says("again, by another name", again, at(1))
	if got := n.logged(); len(got) != 3 || got[1].Kind != rec.Mark || got[1].Id != 7 || got[1].Name != "b" {
		t.Errorf("P17.2: the log has %+v", got)
	}
	n.crash(0)
	n.says("behind a crash", mark(7), at(1))
	n.says("behind a crash", mark(8), at(3))
	n.ask(work(2))
	n.ask(single(2, ""))
	if n.says("again", mark(8), at(3)); n.Log().Closed() == n.Next() {
		t.Error("P17.2: a barrier that stood already closed the log")
	}
}

func TestSettle(t *testing.T) { // P17.2
	n := newNode(t, plain)
	n.says("unknown", settle(1), ok())
	n.says("is over", work(1), gone)
	n.ask(work(2, put("a", "2")))
	n.says("not prepared", settle(2), ok())
	n.says("is over", ready(2), gone)
	n.says("its locks are gone", work(3, put("a", "3")), wrote("a", "3"))
	n.ask(ready(3))
	n.says("prepared", settle(3), ok())
	n.says("given up", settle(3), ok())
	n.says("its locks are gone", work(4, put("a", "4")), wrote("a", "4"))
	n.ask(single(4, "r"))
	n.says("a One", settle(4), committed("r"))
	n.ask(work(5, put("a", "5")))
	n.ask(ready(5))
	n.ask(finish(5, true))
	n.says("committed", settle(5), committed(""))
	n.crash(0)
	n.says("a One", settle(4), committed("r"))
	n.says("committed", settle(5), committed(""))
	n.says("given up", settle(3), ok())
	if got := n.logged(); len(got) != 5 || got[1].Kind != rec.Abort || got[1].Txn != txn(3) {
		t.Errorf("P17.2: the log has %+v", got)
	}
}

func TestCopy(t *testing.T) { // P17.2
	n := newNode(t, plain)
	n.says("Copy", backup(4), ok())
	n.says("again", backup(4), refused(api.ErrThere))
	n.says("another one", backup(0), ok())
	if got := n.v.List(""); len(got) != 2 || !strings.HasPrefix(got[0], "n0/0000000000000003/base.") {
		t.Errorf("P17.2: the vault has %q", got)
	}
}

func TestNoRoom(t *testing.T) { // P17.2: nothing happens
	n := newNode(t, plain)
	n.ask(work(1, put("a", "1")))
	n.ask(ready(1))
	n.ask(work(2, put("b", "2")))
	n.ask(work(3, put("c", "3")))
	n.ask(ready(3))
	filler := strings.Repeat("x", 1<<22-n.d.Used())
	n.d.Append("x", []byte(filler))
	ahead := n.look()
	full := refused(api.ErrFull)
	for range 2 {
		n.says("Ready", ready(2), full)
		n.says("Single", single(2, "r"), full)
		n.says("Finish", finish(1, true), full)
		n.says("Finish", finish(1, false), full)
		n.says("Settle", settle(1), full)
		n.says("Mark", mark(1), full)
		n.says("Work needs none", work(2), wrote("b", "2"))
		if n.look() != ahead {
			t.Fatalf("P17.2: something happened: %s", n.look())
		}
	}
	n.d.Remove("x")
	n.says("with room", finish(1, true), ok())
	n.says("with room", single(2, "r"), committed("r"))
	n.says("with room", settle(3), ok())
	n.says("with room", mark(1), shard.Answer{At: 5})
	n.says("with room", work(4, scan("", "", 9)), rows(pairs("a", "1", "b", "2")))
}

func TestTooLong(t *testing.T) { // P17.2: what is too long for the log isn't taken
	n := newNode(t, plain)
	n.ask(work(1, put("a", "1")))
	ahead := n.look()
	huge := strings.Repeat("x", api.MaxRecord)
	n.says("a reply", single(1, huge), refused(api.ErrSize))
	name := mark(1)
	name.Name = huge
	n.says("a name", name, refused(api.ErrSize))
	if n.look() != ahead {
		t.Error("P17.2: something happened")
	}
	n.says("Single", single(1, huge[:1000]), committed(huge[:1000]))
}

func TestDeadDrive(t *testing.T) { // P17.2
	for what, a := range map[string]shard.Ask{
		"Hello":             {Kind: shard.Hello},
		"Work":              work(3, get("c")),
		"Ready":             ready(2),
		"Single":            single(2, "r"),
		"Finish":            finish(1, true),
		"Settle":            settle(1),
		"Mark":              mark(9),
		"Copy":              backup(9),
		"a kind":            {Kind: 99},
		"a new incarnation": {Inc: 1}, // so much above its own
	} {
		for deeds := range 4 {
			n := newNode(t, plain)
			n.ask(work(1, put("a", "1")))
			n.ask(ready(1))
			n.ask(work(2, put("b", "2")))
			ahead := things(n.v)
			n.d.Arm(deeds % 3)
			if deeds == 3 {
				n.d.Arm(0)
				n.d.Flush()
			}
			a, inc := n.to(a), a.Inc
			a.Inc += inc
			y, e := n.Do(a)
			if deeds == 3 && n.Stale() || n.d.Dead() != (e == api.ErrDead) || e == api.ErrDead && (tell(y) != tell(ok()) || things(n.v) != ahead) || e != api.OK && e != api.ErrDead {
				t.Errorf("P17.2: %s, %d deeds: %s, %d", what, deeds, tell(y), e)
			}
		}
	}
}

func TestStale(t *testing.T) { // P17.4
	o := plain
	o.Patience, o.Every = 1, 1
	n := newNode(t, o)
	n.ask(work(1, put("a", "1")))
	n.ask(single(1, "r"))
	n.ask(work(2, put("b", "1")))
	n.ask(ready(2))
	n.ask(work(3, put("c", "1")))
	n.ask(backup(1))
	n.Log().Close()
	if y, _ := n.Do(shard.Ask{Kind: shard.Finish, Txn: txn(2), Commit: true, Inc: 4}); y.Err != api.ErrStaleIncarnation || !n.Stale() || !n.Sure() {
		t.Fatalf("P17.4: %v", y)
	}
	store, vault, disk := n.look(), things(n.v), files(n.d)
	n.head++
	for kind := -1; kind < 10; kind++ {
		for x := range uint64(5) {
			a := shard.Ask{Kind: kind, Txn: txn(x), Ops: []api.Op{get("a")}, Commit: true, Reply: []byte("q"), Id: 3 + x, Name: "n"}
			n.says("P17.4: Stale", a, refused(api.ErrStaleIncarnation))
		}
	}
	answers(t, "Backup", n.Backup(5), api.ErrStaleIncarnation)
	answers(t, "Backup", n.Backup(1), api.ErrStaleIncarnation)
	for range 3 {
		if list, e := n.Tick(); len(list) != 0 || e != api.OK {
			t.Errorf("P17.4: Tick: %v, %d", list, e)
		}
	}
	if n.look() != store || things(n.v) != vault || files(n.d) != disk {
		t.Error("P17.4: something has changed")
	}
	n.head--
	n.crash(0)
	n.says("opened again it has heard of nothing", settle(1), committed("r"))
	if n.Stale() {
		t.Error("P17.4: it is Stale behind a crash")
	}
}
