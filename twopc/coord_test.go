package twopc_test

import (
	"math"
	"slices"
	"strings"
	"testing"

	"groyne/api"
	"groyne/hlog"
	"groyne/shard"
	"groyne/twopc"
)

func TestExampleOfTwoShards(t *testing.T) { // the chapter's example 1
	c := twopc.New(x, splits("m"), []api.Op{put("a", "1"), put("z", "2")}, 4)
	says(t, "New", c, looks{})
	asks(t, "Begin", c, c.Begin(), work(0, put("a", "1")), work(1, put("z", "2")))
	sends(t, "one has worked", c.Answer(1, worked(nil)))
	says(t, "one has worked", c, looks{again: []twopc.Send{work(0, put("a", "1"))}})
	asks(t, "both have", c, c.Answer(0, worked(nil)), ready(0), ready(1))
	sends(t, "one is ready", c.Answer(0, ok(shard.Ready)))
	says(t, "one is ready", c, looks{again: []twopc.Send{ready(1)}})
	sends(t, "both are", c.Answer(1, ok(shard.Ready)))
	says(t, "both are", c, looks{wants: twopc.Gate})
	sends(t, "Open", c.Open())
	says(t, "Open", c, looks{wants: twopc.Decide, record: decide(true, reply(nil, nil), 0, 1)})
	asks(t, "Logged", c, c.Logged(), finish(0, true), finish(1, true))
	says(t, "Logged", c, looks{again: []twopc.Send{finish(0, true), finish(1, true)}, reply: reply(nil, nil), certain: true})
	sends(t, "one knows", c.Answer(1, ok(shard.Finish)))
	says(t, "one knows", c, looks{again: []twopc.Send{finish(0, true)}, reply: reply(nil, nil), certain: true})
	sends(t, "both know", c.Answer(0, ok(shard.Finish)))
	says(t, "both know", c, looks{wants: twopc.End, record: end, reply: reply(nil, nil), certain: true})
	sends(t, "the end is logged", c.Logged())
	says(t, "the end is logged", c, looks{over: true, reply: reply(nil, nil), certain: true})
}

func TestExampleOfOneShard(t *testing.T) { // the chapter's example 2
	c := twopc.New(x, nil, []api.Op{put("a", "1")}, 4)
	asks(t, "Begin", c, c.Begin(), work(0, put("a", "1")))
	sends(t, "it has worked", c.Answer(0, worked(nil)))
	says(t, "it has worked", c, looks{wants: twopc.Gate})
	asks(t, "Open", c, c.Open(), single(0, reply(nil)))
	says(t, "Open", c, looks{again: []twopc.Send{single(0, reply(nil))}})
	sends(t, "it is committed", c.Answer(0, committed(shard.Single, "r")))
	says(t, "it is committed", c, looks{over: true, reply: []byte("r"), certain: true})
}

func TestDecidedAtOnce(t *testing.T) { // P19.1
	long := strings.Repeat("k", api.MaxKey+1)
	for what, e := range map[string]struct {
		ops  []api.Op
		want api.Errno
	}{
		"too long":         {[]api.Op{get("a"), get(long)}, api.ErrSize},
		"too many":         {slices.Repeat([]api.Op{get("a")}, api.MaxOps+1), api.ErrSize},
		"no kind":          {[]api.Op{put("a", ""), {}}, api.ErrForm},
		"Most":             {[]api.Op{{Kind: 9}, scan("a", "", 33)}, api.ErrArg},
		"Most of no parts": {[]api.Op{scan("b", "a", 0)}, api.ErrArg},
	} {
		c := twopc.New(x, splits("m"), e.ops, 1)
		wants := looks{wants: twopc.Decide, record: decide(false, errReply(e.want, 0))}
		says(t, what, c, wants)
		sends(t, what, c.Begin())
		ticks(c, 3)
		says(t, what, c, wants)
		sends(t, what, c.Logged())
		says(t, what, c, looks{wants: twopc.End, record: end, reply: errReply(e.want, 0), certain: true})
		c.Logged()
		says(t, what, c, looks{over: true, reply: errReply(e.want, 0), certain: true})
	}
	for what, ops := range map[string][]api.Op{
		"nothing":        nil,
		"without keys":   {scan("b", "a", 3)},
		"some of either": {scan("b", "a", 3), scan("a", "a", 32), scan("z", "m", 1)},
	} {
		c := twopc.New(x, splits("m"), ops, 1)
		rows := reply(make([][]api.Pair, len(ops))...)
		sends(t, what, c.Begin())
		ticks(c, 3)
		says(t, what, c, looks{wants: twopc.Decide, record: decide(true, rows)})
		sends(t, what, c.Open())
		sends(t, what, c.Logged())
		says(t, what, c, looks{wants: twopc.End, record: end, reply: rows, certain: true})
	}
}

// begun has asked each of three shards, with a patience of three ticks.
func begun() *twopc.Coord {
	c := twopc.New(x, splits("h", "p"), []api.Op{get("z"), scan("c", "x", 3), get("a")}, 3)
	c.Begin()
	return c
}

func TestWork(t *testing.T) { // P19.1
	c := twopc.New(x, splits("h", "p"), []api.Op{get("z"), scan("c", "x", 3), get("a")}, 3)
	asks(t, "Begin", c, c.Begin(), work(0, scan("c", "h", 3), get("a")), work(1, scan("h", "p", 3)), work(2, get("z"), scan("p", "x", 3)))
	c.Answer(2, worked(pairs("z", "1"), pairs("p", "2", "q", "3")))
	c.Answer(0, worked(pairs("d", "4"), nil))
	asks(t, "all have worked", c, c.Answer(1, worked(pairs("h", "5"))), ready(0), ready(1), ready(2))
	for at := range 3 {
		c.Answer(at, ok(shard.Ready))
	}
	c.Open()
	want := reply(pairs("z", "1"), pairs("d", "4", "h", "5", "p", "2"), nil)
	says(t, "what they come to together", c, looks{wants: twopc.Decide, record: decide(true, want, 0, 1, 2)})
}

func TestWorkThatFails(t *testing.T) { // P19.1
	good := worked(nil, nil)
	odd := func(e, out api.Errno, at int) shard.Answer {
		a := failed(out, at)
		a.Err = e
		return a
	}
	for _, c := range []struct {
		what    string
		answers [3]shard.Answer
		want    []byte
	}{
		{"an error of its Out", [3]shard.Answer{good, good, failed(api.ErrGuard, 1)}, errReply(api.ErrGuard, 1)},
		{"an error of its own", [3]shard.Answer{good, no(shard.Work, api.ErrGone), good}, errReply(api.ErrGone, 1)},
		{"an error that isn't its Out's", [3]shard.Answer{good, good, odd(api.ErrGone, api.ErrGuard, 1)}, errReply(api.ErrGone, 0)},
		{"its Out's alone", [3]shard.Answer{good, good, odd(api.OK, api.ErrGuard, 1)}, errReply(api.ErrGuard, 1)},
		{"the least place", [3]shard.Answer{failed(api.ErrOld, 1), failed(api.ErrGuard, 0), failed(api.ErrLocked, 0)}, errReply(api.ErrLocked, 0)},
		{"the least shard", [3]shard.Answer{failed(api.ErrOld, 0), failed(api.ErrGuard, 0), good}, errReply(api.ErrOld, 1)},
		{"no place", [3]shard.Answer{failed(api.ErrOld, 2), good, good}, errReply(api.ErrOld, 0)},
		{"numbers that are no errors", [3]shard.Answer{good, good, failed(-5, math.MinInt)}, errReply(-5, 0)},
	} {
		co := begun()
		for _, at := range []int{2, 0} {
			sends(t, c.what, co.Answer(at, c.answers[at]))
			if co.Wants() != twopc.Nothing {
				t.Errorf("P19.1: %s: it doesn't wait for all answers", c.what)
			}
		}
		sends(t, c.what, co.Answer(1, c.answers[1]))
		says(t, c.what, co, looks{wants: twopc.Decide, record: decide(false, c.want, 0, 1, 2)})
		asks(t, c.what, co, co.Logged(), finish(0, false), finish(1, false), finish(2, false))
	}
	c := twopc.New(x, splits("m"), []api.Op{put("z", "1")}, 4)
	asks(t, "of one shard", c, c.Begin(), work(1, put("z", "1")))
	c.Answer(1, failed(api.ErrLocked, 0))
	says(t, "of one shard", c, looks{wants: twopc.Decide, record: decide(false, errReply(api.ErrLocked, 0), 1)})
}

func TestReady(t *testing.T) { // P19.1
	readied := func() *twopc.Coord {
		c := begun()
		for at := range 3 {
			c.Answer(at, worked(nil, nil))
		}
		return c
	}
	for _, e := range []api.Errno{api.ErrGone, api.ErrFull, api.ErrOld, api.ErrStaleIncarnation, 99, -1} {
		for ahead := range 3 {
			c := readied()
			for at := range ahead {
				c.Answer(at, ok(shard.Ready))
			}
			sends(t, "a vote against", c.Answer(2, no(shard.Ready, e)))
			wants := looks{wants: twopc.Decide, record: decide(false, errReply(e, 0), 0, 1, 2)}
			says(t, "a vote against", c, wants)
			sends(t, "a vote behind", c.Answer(1, no(shard.Ready, api.ErrArg)))
			ticks(c, 9)
			says(t, "a vote behind", c, wants)
			asks(t, "Logged", c, c.Logged(), finish(0, false), finish(1, false), finish(2, false))
		}
	}
	c := readied()
	a := ok(shard.Ready)
	a.Out.Err, a.Commit, a.Reply = api.ErrGuard, true, []byte("r")
	for at := range 3 {
		c.Answer(at, a) // a vote has nothing but its Err
	}
	says(t, "all votes", c, looks{wants: twopc.Gate})
	ticks(c, 9)
	says(t, "the gate may be shut for long", c, looks{wants: twopc.Gate})
}

func TestPatience(t *testing.T) { // P19.1
	down := errReply(api.ErrShardDown, 0)
	c := begun()
	ticks(c, 2)
	c.Answer(1, worked(nil))
	c.Retry()
	says(t, "not yet", c, looks{again: []twopc.Send{work(0, scan("c", "h", 3), get("a")), work(2, get("z"), scan("p", "x", 3))}})
	c.Tick()
	wants := looks{wants: twopc.Decide, record: decide(false, down, 0, 1, 2)}
	says(t, "while it works", c, wants)
	c.Answer(0, worked(nil, nil))
	c.Answer(2, worked(nil, nil))
	says(t, "too late", c, wants)
	c = begun()
	ticks(c, 2)
	for at := range 3 {
		c.Answer(at, worked(nil, nil))
	}
	ticks(c, 2)
	says(t, "from the first Ready on", c, looks{again: []twopc.Send{ready(0), ready(1), ready(2)}})
	c.Answer(2, ok(shard.Ready))
	c.Tick()
	says(t, "while it is getting ready", c, wants)
	for _, patience := range []int{1, 0, -1, math.MinInt} {
		c := twopc.New(x, nil, []api.Op{get("a")}, patience)
		ticks(c, 5)
		says(t, "ahead of Begin", c, looks{})
		c.Begin()
		says(t, "Begin", c, looks{again: []twopc.Send{work(0, get("a"))}})
		c.Tick()
		says(t, "a patience of less than 1", c, looks{wants: twopc.Decide, record: decide(false, down, 0)})
	}
	c = twopc.New(x, nil, []api.Op{get("a")}, math.MaxInt)
	c.Begin()
	ticks(c, 100)
	says(t, "a long patience", c, looks{again: []twopc.Send{work(0, get("a"))}})
}

// alone has sent its Single, with a patience of two ticks.
func alone() *twopc.Coord {
	c := twopc.New(x, splits("m"), []api.Op{get("z")}, 2)
	c.Begin()
	c.Tick()
	c.Answer(1, worked(pairs("z", "1")))
	ticks(c, 3)
	c.Open()
	return c
}

func TestSingle(t *testing.T) { // P19.1
	waits := looks{again: []twopc.Send{single(1, reply(pairs("z", "1")))}}
	c := alone()
	says(t, "Open", c, waits)
	for _, e := range []api.Errno{api.ErrFull, api.ErrOld, api.ErrSize, api.ErrStaleIncarnation, -1, 99} {
		a := committed(shard.Single, "r")
		a.Err = e
		sends(t, "another error", c.Answer(1, a))
		says(t, "another error", c, waits)
	}
	c.Tick()
	says(t, "a tick", c, waits)
	c.Tick()
	waits.doubt = true
	says(t, "in doubt", c, waits)
	c.Answer(1, no(shard.Single, api.ErrFull))
	sends(t, "Open once more", c.Open())
	c.Retry()
	says(t, "still in doubt", c, waits)
	sends(t, "OK", c.Answer(1, ok(shard.Single)))
	says(t, "OK", c, looks{over: true, certain: true})
	for _, late := range []int{0, 2, 9} {
		c = alone()
		ticks(c, late)
		sends(t, "ErrGone", c.Answer(1, no(shard.Single, api.ErrGone)))
		ticks(c, late)
		says(t, "ErrGone", c, looks{wants: twopc.Decide, record: decide(false, errReply(api.ErrGone, 0), 1)})
		asks(t, "Logged", c, c.Logged(), finish(1, false))
		c.Answer(1, ok(shard.Finish))
		says(t, "its end", c, looks{wants: twopc.End, record: end, reply: errReply(api.ErrGone, 0), certain: true})
	}
}

func TestFinish(t *testing.T) { // P19.1
	c := twopc.Resume(x, hlog.Decision{Commit: true, Shards: []int{0, 2}, Reply: []byte("r")})
	c.Begin()
	waits := looks{again: []twopc.Send{finish(0, true), finish(2, true)}, reply: []byte("r"), certain: true}
	for _, e := range []api.Errno{api.ErrFull, api.ErrGone, api.ErrOld, api.ErrStaleIncarnation, -1, 99} {
		sends(t, "another error", c.Answer(0, no(shard.Finish, e)))
		ticks(c, 9)
		says(t, "another error", c, waits)
	}
	c.Answer(0, ok(shard.Finish))
	c.Answer(2, no(shard.Finish, api.ErrFull))
	c.Answer(0, no(shard.Finish, api.ErrFull))
	waits.again = waits.again[1:]
	says(t, "one has answered", c, waits)
	c.Answer(2, ok(shard.Finish))
	says(t, "both have", c, looks{wants: twopc.End, record: end, reply: []byte("r"), certain: true})
}

func TestResume(t *testing.T) { // P19.1
	for _, commit := range []bool{false, true} {
		c := twopc.Resume(x, hlog.Decision{Commit: commit, Shards: []int{3, 1}, Reply: []byte("r"), At: 5})
		says(t, "Resume", c, looks{reply: []byte("r"), certain: true})
		asks(t, "Begin", c, c.Begin(), finish(1, commit), finish(3, commit))
		c.Answer(3, ok(shard.Finish))
		c.Answer(1, ok(shard.Finish))
		sends(t, "the end is logged", c.Logged())
		says(t, "the end is logged", c, looks{over: true, reply: []byte("r"), certain: true})
		c = twopc.Resume(x, hlog.Decision{Commit: commit})
		says(t, "without shards", c, looks{wants: twopc.End, record: end, certain: true})
		sends(t, "without shards", c.Begin())
		c.Logged()
		says(t, "without shards", c, looks{over: true, certain: true})
	}
	c := twopc.Resume(x, hlog.Decision{Shards: []int{math.MaxInt, -1, 0, -1, 0, math.MinInt}})
	asks(t, "any shards", c, c.Begin(), finish(math.MinInt, false), finish(-1, false), finish(0, false), finish(math.MaxInt, false))
}

func TestInquire(t *testing.T) { // P19.1
	gone := errReply(api.ErrGone, 0)
	c := twopc.Inquire(x, 3, 2)
	ticks(c, 5)
	says(t, "Inquire", c, looks{})
	asks(t, "Begin", c, c.Begin(), settle(0), settle(1), settle(2))
	c.Tick()
	c.Answer(1, ok(shard.Settle))
	for _, e := range []api.Errno{api.ErrGone, api.ErrFull, api.ErrOld, -1, 99} {
		a := committed(shard.Settle, "r")
		a.Err = e
		sends(t, "an error", c.Answer(0, a))
	}
	says(t, "one has answered", c, looks{again: []twopc.Send{settle(0), settle(2)}})
	c.Tick()
	says(t, "in doubt", c, looks{doubt: true, again: []twopc.Send{settle(0), settle(2)}})
	c.Answer(2, ok(shard.Settle))
	sends(t, "all have", c.Answer(0, ok(shard.Settle)))
	ticks(c, 5)
	says(t, "all have", c, looks{wants: twopc.Decide, record: decide(false, gone)})
	sends(t, "Logged", c.Logged())
	says(t, "Logged", c, looks{wants: twopc.End, record: end, reply: gone, certain: true})

	for ahead := range 3 {
		c = twopc.Inquire(x, 3, 2)
		c.Begin()
		for at := range ahead {
			c.Answer(at, ok(shard.Settle))
		}
		ticks(c, 5)
		sends(t, "one has it", c.Answer(2, committed(shard.Settle, "r")))
		says(t, "one has it", c, looks{over: true, reply: []byte("r"), certain: true})
	}
	for _, shards := range []int{0, -1, math.MinInt} {
		c = twopc.Inquire(x, shards, 2)
		says(t, "no shards", c, looks{wants: twopc.Decide, record: decide(false, gone)})
		sends(t, "no shards", c.Begin())
	}
	c = twopc.Inquire(x, 1, -1)
	c.Begin()
	says(t, "Begin", c, looks{again: []twopc.Send{settle(0)}})
	c.Tick()
	says(t, "a patience of less than 1", c, looks{doubt: true, again: []twopc.Send{settle(0)}})
	says(t, "more shards than can be asked", twopc.Inquire(x, math.MaxInt, 1), looks{})
}
