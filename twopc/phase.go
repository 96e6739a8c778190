package twopc

import (
	"bytes"

	"groyne/api"
	"groyne/branch"
	"groyne/shard"
)

// phase: how far a coordinator has come.
type phase int

const (
	fresh phase = iota // nothing was sent yet

	// Shards are asked.
	working
	readying
	committing // on a single shard
	settling
	finishing

	// The head is to do something.
	gating
	deciding
	ending

	over
)

// enter begins a phase in which shards are asked, and answers what is sent.
func (c *Coord) enter(p phase, asked []int, ask func(at int) shard.Ask) []Send {
	c.phase, c.ticks = p, 0
	c.turn = turn{asked, ask, map[int]branch.Outcome{}}
	return c.unanswered()
}

// rest begins a phase in which they aren't.
func (c *Coord) rest(p phase) {
	c.phase, c.ticks, c.turn = p, 0, turn{}
}

// decide has it want a decision, with this reply.
func (c *Coord) decide(commit bool, o branch.Outcome) {
	c.commit, c.reply = commit, o.Reply()
	c.rest(deciding)
}

// Answer: a shard's.
func (c *Coord) Answer(at int, a shard.Answer) []Send {
	if !c.fits(at, a) {
		return nil
	}
	switch c.phase {
	case working:
		return c.worked(at, a)
	case readying:
		c.voted(at, a)
	case committing:
		c.committed(a)
	case settling:
		c.settled(at, a)
	case finishing:
		c.finished(at, a)
	}
	return nil
}

func (c *Coord) work() []Send {
	ops := map[int][]api.Op{}
	for _, p := range c.parts {
		c.shards = append(c.shards, p.Shard)
		ops[p.Shard] = p.Ops
	}
	return c.enter(working, c.shards, func(at int) shard.Ask {
		return shard.Ask{Kind: shard.Work, Txn: c.txn, Ops: copied(ops[at])}
	})
}

func (c *Coord) worked(at int, a shard.Answer) []Send {
	if !c.answered(at, outcome(a)) {
		return nil
	}
	var list []branch.Outcome
	for _, p := range c.parts {
		list = append(list, c.answers[p.Shard])
	}
	o := branch.Join(c.ops, c.parts, list...)
	if o.Err != api.OK {
		c.decide(false, o)
		return nil
	}
	c.reply = o.Reply()
	if len(c.shards) > 1 {
		return c.ready()
	}
	c.rest(gating) // a single shard needs no vote
	return nil
}

// outcome answers what a Work came to.
func outcome(a shard.Answer) branch.Outcome {
	if a.Err != api.OK && a.Err != a.Out.Err {
		return branch.Outcome{Err: a.Err}
	}
	kept, _ := branch.ToReply(a.Out.Reply()) // as bytes and back, so that it is in memory of its own
	return kept
}

func (c *Coord) ready() []Send {
	return c.enter(readying, c.shards, func(int) shard.Ask {
		return shard.Ask{Kind: shard.Ready, Txn: c.txn}
	})
}

func (c *Coord) voted(at int, a shard.Answer) {
	if a.Err != api.OK {
		c.decide(false, branch.Outcome{Err: a.Err})
	} else if c.answered(at, branch.Outcome{}) {
		c.rest(gating)
	}
}

func (c *Coord) single() []Send {
	return c.enter(committing, c.shards, func(int) shard.Ask {
		return shard.Ask{Kind: shard.Single, Txn: c.txn, Reply: bytes.Clone(c.reply)}
	})
}

func (c *Coord) committed(a shard.Answer) {
	switch a.Err {
	case api.OK:
		c.end(a.Reply)
	case api.ErrGone:
		c.decide(false, branch.Outcome{Err: api.ErrGone})
	}
}

// end has it over, as a shard says that the transaction is committed, with this reply.
func (c *Coord) end(reply []byte) {
	c.reply, c.certain = bytes.Clone(reply), true
	c.rest(over)
}

func (c *Coord) settle(shards int) []Send {
	all := make([]int, shards)
	for at := range all {
		all[at] = at
	}
	return c.enter(settling, all, func(int) shard.Ask {
		return shard.Ask{Kind: shard.Settle, Txn: c.txn}
	})
}

func (c *Coord) settled(at int, a shard.Answer) {
	switch {
	case a.Err != api.OK: // as if none had come
	case a.Commit:
		c.end(a.Reply)
	case c.answered(at, branch.Outcome{}):
		c.decide(false, branch.Outcome{Err: api.ErrGone})
	}
}

func (c *Coord) finish() []Send {
	c.certain = true
	if len(c.shards) == 0 {
		c.rest(ending)
		return nil
	}
	return c.enter(finishing, c.shards, func(int) shard.Ask {
		return shard.Ask{Kind: shard.Finish, Txn: c.txn, Commit: c.commit}
	})
}

func (c *Coord) finished(at int, a shard.Answer) {
	if a.Err == api.OK && c.answered(at, branch.Outcome{}) {
		c.rest(ending)
	}
}

// copied answers the same ops in memory of their own.
func copied(ops []api.Op) []api.Op {
	var list []api.Op
	for _, op := range ops {
		op.Key, op.Value = bytes.Clone(op.Key), bytes.Clone(op.Value)
		list = append(list, op)
	}
	return list
}
