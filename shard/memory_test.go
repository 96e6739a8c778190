package shard_test

import (
	"fmt"
	"testing"

	"groyne/api"
	"groyne/shard"
)

// roomy: bytes with spare room behind.
func roomy(s string) []byte { return append(make([]byte, 0, len(s)+8), s...) }

// smear writes over bytes and their spare room.
func smear(lists ...[]byte) {
	for _, b := range lists {
		b = b[:cap(b)]
		for i := range b {
			b[i] = '!'
		}
	}
}

// smearAnswer writes over all memory of an answer, lists too; each list on its own, so that what is shared shows.
func smearAnswer(y shard.Answer) {
	smear(y.Reply)
	for _, row := range y.Out.Rows {
		for _, p := range row {
			smear(p.Key, p.Value)
		}
		clear(row[:cap(row)])
	}
	for _, w := range y.Out.Writes {
		smear(w.Key, w.Value)
	}
	clear(y.Out.Rows[:cap(y.Out.Rows)])
	clear(y.Out.Writes[:cap(y.Out.Writes)])
}

// whole tells an ask with the spare room of its lists.
func whole(a shard.Ask) string {
	out := fmt.Sprintf("%+v %q %v", a, a.Reply[:cap(a.Reply)], a.Ops[:cap(a.Ops)])
	for _, op := range a.Ops {
		out += fmt.Sprintf("%q %q", op.Key[:cap(op.Key)], op.Value[:cap(op.Value)])
	}
	return out
}

// roomyAsk is the same ask, all of whose memory has spare room.
func roomyAsk(a shard.Ask) shard.Ask {
	a.Reply = roomy(string(a.Reply))
	ops := make([]api.Op, 0, len(a.Ops)+3)
	for _, op := range a.Ops {
		op.Key, op.Value = roomy(string(op.Key)), roomy(string(op.Value))
		ops = append(ops, op)
	}
	a.Ops = ops
	return a
}

// smeared asks, and writes over all that was handed in and answered.
func (n *node) smeared(a shard.Ask) string {
	n.t.Helper()
	a = roomyAsk(n.to(a))
	ahead := whole(a)
	y, e := n.Do(a)
	if e != api.OK || whole(a) != ahead {
		n.t.Fatalf("P17.6: Do(%d): %d, or it changed what it was handed", a.Kind, e)
	}
	told := tell(y)
	smear(a.Reply)
	for _, op := range a.Ops {
		smear(op.Key, op.Value)
	}
	clear(a.Ops[:cap(a.Ops)])
	if tell(y) != told {
		n.t.Errorf("P17.6: the answer to %d shares memory with the ask", a.Kind)
	}
	smearAnswer(y)
	return told
}

func TestMemory(t *testing.T) { // P17.6
	asks := []shard.Ask{
		work(1, put("a", "1"), get("a"), get("a"), scan("a", "b", 3), del("b")),
		work(1, put("a", "1")),
		work(1),
		ready(1),
		work(2, put("c", "2"), get("c"), scan("", "a", 9)),
		work(2),
		single(2, "reply"),
		single(2, "other"),
		settle(2),
		finish(1, true),
		work(3, scan("", "", 9), scan("", "", 9), absent("q"), expect("a", "1")),
		work(3),
		mark(7),
		ready(3),
		work(4, put("a", "4")),
	}
	plainly, other := newNode(t, plain), newNode(t, plain)
	for _, a := range asks {
		want := tell(plainly.ask(a))
		if got := other.smeared(a); got != want {
			t.Errorf("P17.6: Do(%+v):\n%s, want\n%s", a, got, want)
		}
	}
	if got, want := other.look(), plainly.look(); got != want {
		t.Errorf("P17.6: the shard is\n%s, not\n%s", got, want)
	}
	other.crash(0)
	plainly.crash(0)
	if got, want := other.look(), plainly.look(); got != want {
		t.Errorf("P17.6: behind a crash the shard is\n%s, not\n%s", got, want)
	}
}

func TestAnswersShareNothing(t *testing.T) { // P17.6
	n := newNode(t, plain)
	first := n.ask(work(1, put("a", "1"), get("a"), scan("", "", 9)))
	second := n.ask(work(1))
	told := tell(second)
	smearAnswer(first)
	if tell(second) != told || tell(n.ask(work(1))) != told {
		t.Errorf("P17.6: answers share memory: %s", tell(second))
	}
	smearAnswer(second)
	n.says("Single", single(1, "r"), committed("r"))
	n.says("what was written", work(2, get("a")), rows(pairs("a", "1")))
	one, two := n.ask(single(1, "")), n.ask(settle(1))
	smear(one.Reply)
	if string(two.Reply) != "r" || string(n.ask(settle(1)).Reply) != "r" {
		t.Error("P17.6: replies share memory")
	}
}

func TestDoubtsAreNewMemory(t *testing.T) { // P17.6
	o := plain
	o.Patience = 1
	n := newNode(t, o)
	n.prepares(1, 2)
	list, _ := n.Tick()
	clear(list[:cap(list)])
	n.ticks("again", 1, 2)
}
