package twopc_test

import (
	"fmt"
	"math/rand"
	"slices"
	"testing"

	"groyne/api"
	"groyne/branch"
	"groyne/hlog"
	"groyne/shard"
	"groyne/twopc"
)

// model is a coordinator, told plainly. Its state is what it waits for: begin, or answers of a kind, or what the head is to do.
type model struct {
	state    string
	first    string // the state behind begin
	ops      []api.Op
	parts    []branch.Part
	asked    []int
	got      map[int]branch.Outcome
	clock    int
	patience int
	shards   []int
	commit   bool
	reply    []byte
	certain  bool
}

func modelNew(splits [][]byte, ops []api.Op, patience int) *model {
	m := &model{state: "begin", first: "Work", ops: ops, parts: branch.Parts(splits, ops...), patience: max(1, patience)}
	if e := branch.Check(ops...); e != 0 {
		m.decide(false, branch.Outcome{Err: e})
	} else if len(m.parts) == 0 {
		m.decide(true, branch.Join(ops, nil))
	}
	for _, p := range m.parts {
		m.asked = append(m.asked, p.Shard)
	}
	return m
}

func modelResume(d hlog.Decision) *model {
	m := &model{state: "begin", first: "Finish", asked: d.Shards, shards: d.Shards, commit: d.Commit, reply: d.Reply, certain: true}
	if len(d.Shards) == 0 {
		m.state = "end"
	}
	return m
}

func modelInquire(shards, patience int) *model {
	m := &model{state: "begin", first: "Settle", patience: max(1, patience)}
	for at := range shards {
		m.asked = append(m.asked, at)
	}
	if shards <= 0 {
		m.decide(false, branch.Outcome{Err: api.ErrGone})
	}
	return m
}

func (m *model) decide(commit bool, o branch.Outcome) {
	m.state, m.commit, m.reply = "decide", commit, o.Reply()
}

// go on to a state, and answer what is sent then.
func (m *model) goOn(state string) []twopc.Send {
	m.state, m.clock, m.got = state, 0, map[int]branch.Outcome{}
	return m.retry()
}

func (m *model) begin() []twopc.Send {
	if m.state != "begin" {
		return nil
	}
	if m.first == "Work" {
		m.shards = m.asked
	}
	return m.goOn(m.first)
}

func (m *model) retry() []twopc.Send {
	var list []twopc.Send
	for i, at := range m.asked {
		if _, has := m.got[at]; has {
			continue
		}
		switch m.state {
		case "Work":
			list = append(list, work(at, m.parts[i].Ops...))
		case "Ready":
			list = append(list, ready(at))
		case "Single":
			list = append(list, single(at, m.reply))
		case "Settle":
			list = append(list, settle(at))
		case "Finish":
			list = append(list, finish(at, m.commit))
		}
	}
	return list
}

func (m *model) answer(at int, a shard.Answer) []twopc.Send {
	kinds := map[string]int{"Work": shard.Work, "Ready": shard.Ready, "Single": shard.Single, "Settle": shard.Settle, "Finish": shard.Finish}
	kind, asks := kinds[m.state]
	if _, has := m.got[at]; !asks || has || a.Kind != kind || a.Txn != x || !slices.Contains(m.asked, at) {
		return nil
	}
	o := a.Out
	if a.Err != 0 && a.Err != o.Err {
		o = branch.Outcome{Err: a.Err}
	}
	switch {
	case m.state == "Ready" && a.Err != 0:
		m.decide(false, branch.Outcome{Err: a.Err})
		return nil
	case m.state == "Single" && a.Err == api.ErrGone:
		m.decide(false, branch.Outcome{Err: a.Err})
		return nil
	case m.state != "Work" && a.Err != 0:
		return nil
	case m.state == "Single", m.state == "Settle" && a.Commit:
		m.state, m.reply, m.certain = "over", a.Reply, true
		return nil
	}
	m.got[at] = o
	if len(m.got) == len(m.asked) {
		return m.allCame()
	}
	return nil
}

func (m *model) allCame() []twopc.Send {
	switch m.state {
	case "Work":
		var list []branch.Outcome
		for _, at := range m.asked {
			list = append(list, m.got[at])
		}
		o := branch.Join(m.ops, m.parts, list...)
		m.decide(false, o)
		if o.Err == 0 && len(m.asked) == 1 {
			m.state = "gate"
		} else if o.Err == 0 {
			return m.goOn("Ready")
		}
	case "Ready":
		m.state = "gate"
	case "Settle":
		m.decide(false, branch.Outcome{Err: api.ErrGone})
	case "Finish":
		m.state = "end"
	}
	return nil
}

func (m *model) open() []twopc.Send {
	if m.state == "gate" && len(m.asked) == 1 {
		return m.goOn("Single")
	}
	if m.state == "gate" {
		m.state, m.commit = "decide", true
	}
	return nil
}

func (m *model) logged() []twopc.Send {
	switch {
	case m.state == "decide":
		m.certain, m.asked = true, m.shards
		if len(m.asked) > 0 {
			return m.goOn("Finish")
		}
		m.state = "end"
	case m.state == "end":
		m.state = "over"
	}
	return nil
}

func (m *model) tick() {
	m.clock++
	if (m.state == "Work" || m.state == "Ready") && m.clock == m.patience {
		m.decide(false, branch.Outcome{Err: api.ErrShardDown})
	}
}

func (m *model) look() looks {
	l := looks{again: m.retry(), certain: m.certain, over: m.state == "over"}
	if m.certain {
		l.reply = m.reply
	}
	switch m.state {
	case "decide":
		l.wants, l.record = twopc.Decide, decide(m.commit, m.reply, m.shards...)
	case "gate":
		l.wants = twopc.Gate
	case "end":
		l.wants, l.record = twopc.End, end
	case "Single", "Settle":
		l.doubt = m.clock >= m.patience
	case "begin":
		l.again = nil
	}
	return l
}

// pair begins a coordinator and its model.
func pair(r *rand.Rand) (*twopc.Coord, *model) {
	patience := r.Intn(6) - 1
	switch r.Intn(6) {
	case 0:
		d := hlog.Decision{Commit: r.Intn(2) == 0, Shards: [][]int{nil, {0}, {1, 2}, {0, 1, 3}}[r.Intn(4)], Reply: []byte("r")}
		return twopc.Resume(x, d), modelResume(d)
	case 1:
		shards := r.Intn(6) - 1
		return twopc.Inquire(x, shards, patience), modelInquire(shards, patience)
	}
	var ops []api.Op
	for range r.Intn(5) {
		key := string("adhmqz"[r.Intn(6)])
		ops = append(ops, []api.Op{get(key), put(key, "1"), scan(key, "", 2), scan(key, "m", 32), scan("c", key, 3)}[r.Intn(5)])
	}
	if r.Intn(20) == 0 {
		ops = append(ops, api.Op{Kind: 9})
	}
	list := [][][]byte{nil, splits("m"), splits("d", "m"), splits("b", "m", "p")}[r.Intn(4)]
	return twopc.New(x, list, ops, patience), modelNew(list, ops, patience)
}

// anAnswer is one that mostly fits.
func anAnswer(r *rand.Rand, m *model) (int, shard.Answer) {
	kinds := map[string]int{"Work": shard.Work, "Ready": shard.Ready, "Single": shard.Single, "Settle": shard.Settle, "Finish": shard.Finish}
	a := shard.Answer{Kind: kinds[m.state], Txn: x, Commit: r.Intn(4) == 0, Reply: []byte{byte(r.Intn(3))}}
	if r.Intn(8) == 0 {
		a.Kind = r.Intn(10) - 1
	}
	if r.Intn(20) == 0 {
		a.Txn.Seq++
	}
	if r.Intn(8) == 0 {
		a.Err = []api.Errno{api.ErrGone, api.ErrGuard, api.ErrFull, -1}[r.Intn(4)]
	}
	if r.Intn(16) == 0 {
		a.Out.Err, a.Out.At = api.ErrGuard, r.Intn(4)-1
	}
	for range r.Intn(5) {
		a.Out.Rows = append(a.Out.Rows, [][]api.Pair{nil, pairs("a", "1"), pairs("n", "2", "o", "3", "q", "4")}[r.Intn(3)])
	}
	return r.Intn(6) - 1, a
}

func TestModel(t *testing.T) { // P19.1
	over := 0
	for seed := range int64(2000) {
		r := rand.New(rand.NewSource(seed))
		c, m := pair(r)
		for step := range 60 {
			var what string
			var got, want []twopc.Send
			switch n := r.Intn(40); {
			case n < 2:
				what, got, want = "Begin", c.Begin(), m.begin()
			case n < 5:
				what, got, want = "Open", c.Open(), m.open()
			case n < 7:
				what, got, want = "Logged", c.Logged(), m.logged()
			case n < 10:
				what = "Tick"
				c.Tick()
				m.tick()
			default:
				at, a := anAnswer(r, m)
				what = fmt.Sprintf("Answer(%d, %+v)", at, a)
				got, want = c.Answer(at, a), m.answer(at, a)
			}
			what = fmt.Sprintf("seed %d, step %d: %s", seed, step, what)
			sends(t, what, got, want...)
			says(t, what, c, m.look())
			if t.Failed() {
				return
			}
		}
		if c.Over() {
			over++
		}
	}
	if over < 500 {
		t.Errorf("only %d were over", over)
	}
}
