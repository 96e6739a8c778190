package twopc_test

import (
	"fmt"
	"testing"

	"groyne/api"
	"groyne/hlog"
	"groyne/shard"
	"groyne/twopc"
)

func smear(b []byte) {
	b = b[:cap(b)]
	for i := range b {
		b[i] = '!'
	}
}

// roomy is the same bytes in memory with spare room.
func roomy(b []byte) []byte { return append(make([]byte, 0, len(b)+8), b...) }

func roomyOps(ops ...api.Op) []api.Op {
	list := make([]api.Op, 0, len(ops)+3)
	for _, op := range ops {
		op.Key, op.Value = roomy(op.Key), roomy(op.Value)
		list = append(list, op)
	}
	return list
}

func smearOps(ops []api.Op) {
	for _, op := range ops {
		smear(op.Key)
		smear(op.Value)
	}
	clear(ops[:cap(ops)])
}

func tellOps(ops []api.Op) string {
	out := fmt.Sprint(ops[:cap(ops)])
	for _, op := range ops {
		out += fmt.Sprint(op.Key[:cap(op.Key)], op.Value[:cap(op.Value)])
	}
	return out
}

// smearAnswers writes over all that a coordinator answers.
func smearAnswers(c *twopc.Coord, more ...[]twopc.Send) {
	for _, list := range append(more, c.Retry()) {
		for _, s := range list {
			smearOps(s.Ask.Ops)
			smear(s.Ask.Reply)
		}
		clear(list[:cap(list)])
	}
	r := c.Record()
	smear(r.Reply)
	clear(r.Shards[:cap(r.Shards)])
	reply, _ := c.Reply()
	smear(reply)
}

func TestMemory(t *testing.T) { // P19.4
	at := append(make([][]byte, 0, 4), roomy([]byte("m")))
	ops := roomyOps(get("a"), scan("l", "n", 1), put("z", "1"))
	ahead := tellOps(ops) + fmt.Sprintf("%q %v", at[:4], at[0][:cap(at[0])])
	c := twopc.New(x, at, ops, 4)
	sent := c.Begin()
	if tellOps(ops)+fmt.Sprintf("%q %v", at[:4], at[0][:cap(at[0])]) != ahead {
		t.Error("P19.4: New changed what it was handed")
	}
	smearOps(ops)
	smear(at[0])
	clear(at[:4])
	smearAnswers(c, sent)
	asks(t, "what was handed in is written over", c, c.Retry(), work(0, get("a"), scan("l", "m", 1)), work(1, scan("m", "n", 1), put("z", "1")))
	smearAnswers(c)
	for _, shards := range []int{1, 0} {
		a := worked(pairs("a", "1"), pairs("l", "2"))
		for _, row := range a.Out.Rows {
			row[0].Key, row[0].Value = roomy(row[0].Key), roomy(row[0].Value)
		}
		told := fmt.Sprintf("%+v", a)
		sent = c.Answer(shards, a)
		if fmt.Sprintf("%+v", a) != told {
			t.Error("P19.4: Answer changed what it was handed")
		}
		for _, row := range a.Out.Rows {
			smear(row[0].Key)
			smear(row[0].Value)
		}
		clear(a.Out.Rows)
		clear(a.Out.Writes)
		smearAnswers(c, sent)
	}
	c.Answer(0, ok(shard.Ready))
	c.Answer(1, ok(shard.Ready))
	c.Open()
	smearAnswers(c)
	want := reply(pairs("a", "1"), pairs("l", "2"), pairs("l", "2"))
	says(t, "P19.4", c, looks{wants: twopc.Decide, record: decide(true, want, 0, 1)})
	smearAnswers(c, c.Logged())
	says(t, "P19.4", c, looks{again: []twopc.Send{finish(0, true), finish(1, true)}, reply: want, certain: true})
}

func TestMemoryOfReplies(t *testing.T) { // P19.4
	c := alone()
	smearAnswers(c)
	asks(t, "P19.4: Single", c, c.Retry(), single(1, reply(pairs("z", "1"))))
	for kind, c := range map[int]*twopc.Coord{shard.Single: alone(), shard.Settle: twopc.Inquire(x, 2, 3)} {
		c.Begin()
		a := committed(kind, "r")
		a.Reply = roomy(a.Reply)
		c.Answer(1, a)
		smear(a.Reply)
		smearAnswers(c)
		says(t, "P19.4: a reply", c, looks{over: true, reply: []byte("r"), certain: true})
	}
	d := hlog.Decision{Shards: append(make([]int, 0, 5), 3, 1), Reply: roomy([]byte("r"))}
	ahead := fmt.Sprint(d, d.Shards[:5], d.Reply[:cap(d.Reply)])
	c = twopc.Resume(x, d)
	if fmt.Sprint(d, d.Shards[:5], d.Reply[:cap(d.Reply)]) != ahead {
		t.Error("P19.4: Resume changed what it was handed")
	}
	clear(d.Shards[:5])
	smear(d.Reply)
	smearAnswers(c, c.Begin())
	says(t, "P19.4: Resume", c, looks{again: []twopc.Send{finish(1, false), finish(3, false)}, reply: []byte("r"), certain: true})
}
