package shard_test

import (
	"fmt"
	"maps"
	"math/rand"
	"slices"
	"strings"
	"testing"

	"groyne/api"
	"groyne/branch"
	"groyne/lock"
	"groyne/shard"
)

// mind is what becomes of a transaction, told plainly.
type mind struct {
	state string // working, prepared, committed, aborted
	one   bool
	out   branch.Outcome
	locks []api.Range
	reply string
	waits int
}

// model is a shard, told plainly.
type model struct {
	boot, head  uint64
	stale, sure bool
	next        uint64
	pairs       map[string]string
	txns        map[api.Txn]mind
	over        map[api.Txn]bool
	marks       map[uint64]uint64
	copies      map[uint64]bool
}

func newModel() model {
	return model{pairs: map[string]string{}, txns: map[api.Txn]mind{}, over: map[api.Txn]bool{}, marks: map[uint64]uint64{}, copies: map[uint64]bool{}}
}

func (m model) twin() model {
	m.pairs, m.txns, m.over, m.marks, m.copies = maps.Clone(m.pairs), maps.Clone(m.txns), maps.Clone(m.over), maps.Clone(m.marks), maps.Clone(m.copies)
	return m
}

// opened is what is left of it when it is opened again.
func (m model) opened(boot uint64) model {
	m = m.twin()
	m.boot, m.head, m.stale, m.sure, m.over = boot, 0, false, false, map[api.Txn]bool{}
	m.forget()
	for x, b := range m.txns {
		b.waits = 0
		m.txns[x] = b
	}
	return m
}

// forget has all that work gone.
func (m *model) forget() {
	maps.DeleteFunc(m.txns, func(_ api.Txn, b mind) bool { return b.state == "working" })
}

// Scan reads the model.
func (m *model) Scan(from, to []byte, most int) ([]api.Pair, api.Errno) {
	var list []api.Pair
	for _, key := range slices.Sorted(maps.Keys(m.pairs)) {
		if key >= string(from) && (len(to) == 0 || key < string(to)) && len(list) < most {
			list = append(list, pairs(key, m.pairs[key])...)
		}
	}
	return list, api.OK
}

func (m *model) write(writes []api.Write) {
	for _, w := range writes {
		if w.Gone {
			delete(m.pairs, string(w.Key))
		} else {
			m.pairs[string(w.Key)] = string(w.Value)
		}
	}
}

// record stands in the log, and says what became of a transaction.
func (m *model) record(x api.Txn, state string, change func(b *mind)) {
	b := m.txns[x]
	b.state = state
	change(&b)
	if state == "committed" {
		m.write(b.out.Writes)
	}
	m.txns[x] = b
	m.next++
}

func unchanged(*mind) {}

// locked answers the place of the first op that somebody else's lock is in the way of.
func (m *model) locked(x api.Txn, ops []api.Op) int {
	for i, op := range ops {
		for y, b := range m.txns {
			if y == x || b.state != "working" && b.state != "prepared" {
				continue
			}
			for _, held := range b.locks {
				if slices.ContainsFunc(branch.Locks(op), func(r api.Range) bool { return lock.Clash(held, r) }) {
					return i
				}
			}
		}
	}
	return -1
}

func (m *model) answer(inc uint64, a shard.Ask) shard.Answer {
	y := m.refuse(inc, a)
	if y.Err == api.OK {
		y = m.do(a)
	}
	y.Kind, y.Inc, y.Boot, y.Txn, y.Id = a.Kind, inc, m.boot, a.Txn, a.Id
	return y
}

func (m *model) refuse(inc uint64, a shard.Ask) shard.Answer {
	if a.Inc != inc {
		m.stale = m.stale || a.Inc > inc
		return refused(api.ErrStaleIncarnation)
	}
	if m.stale {
		return refused(api.ErrStaleIncarnation)
	}
	if a.Head < m.head {
		return refused(api.ErrOld)
	}
	m.sure = true
	if a.Head > m.head {
		m.head = a.Head
		m.forget()
	}
	return ok()
}

func (m *model) do(a shard.Ask) shard.Answer {
	b := m.txns[a.Txn]
	unknown := a.Boot != m.boot || b.state != "working"
	switch a.Kind {
	case shard.Hello:
		return ok()
	case shard.Work:
		return m.work(a)
	case shard.Ready:
		if b.state == "prepared" {
			return ok()
		}
		if unknown {
			return gone
		}
		m.record(a.Txn, "prepared", unchanged)
		return ok()
	case shard.Single:
		if b.one {
			return committed(b.reply)
		}
		if unknown {
			return gone
		}
		m.record(a.Txn, "committed", func(b *mind) { b.one, b.reply = true, string(a.Reply) })
		return committed(string(a.Reply))
	case shard.Finish:
		m.end(a.Txn, map[bool]string{true: "committed", false: "aborted"}[a.Commit])
		return ok()
	case shard.Settle:
		m.end(a.Txn, "aborted")
		if b = m.txns[a.Txn]; b.state == "committed" {
			return committed(b.reply)
		}
		return ok()
	case shard.Mark:
		if _, stands := m.marks[a.Id]; !stands {
			m.marks[a.Id] = m.next
			m.next++
		}
		return shard.Answer{At: m.marks[a.Id]}
	case shard.Copy:
		if m.copies[a.Id] {
			return refused(api.ErrThere)
		}
		m.copies[a.Id] = true
		return ok()
	}
	return refused(api.ErrForm)
}

func (m *model) work(a shard.Ask) shard.Answer {
	b, known := m.txns[a.Txn]
	if a.Boot != m.boot || m.over[a.Txn] || known && b.state != "working" {
		return gone
	}
	if known {
		return shard.Answer{Out: b.out}
	}
	out := branch.Run(m, a.Ops...)
	if at := m.locked(a.Txn, a.Ops); branch.Check(a.Ops...) == api.OK && at >= 0 {
		out = branch.Outcome{Err: api.ErrLocked, At: at}
	}
	if out.Err != api.OK {
		m.over[a.Txn] = true
	} else {
		m.txns[a.Txn] = mind{state: "working", out: out, locks: branch.Locks(a.Ops...)}
	}
	return shard.Answer{Err: out.Err, Out: out}
}

func (m *model) end(x api.Txn, state string) {
	switch m.txns[x].state {
	case "prepared":
		m.record(x, state, unchanged)
	case "working":
		delete(m.txns, x)
	}
	m.over[x] = true
}

// tick answers for whom is asked.
func (m *model) tick(patience int) []api.Txn {
	var list []api.Txn
	for _, x := range slices.SortedFunc(maps.Keys(m.txns), lock.Compare) {
		b := m.txns[x]
		if m.stale || b.state != "prepared" {
			continue
		}
		if b.waits++; b.waits >= patience {
			list, b.waits = append(list, x), 0
		}
		m.txns[x] = b
	}
	return list
}

func (m *model) those(states ...string) string {
	var list []api.Txn
	for x, b := range m.txns {
		if slices.Contains(states, b.state) {
			list = append(list, x)
		}
	}
	slices.SortFunc(list, lock.Compare)
	return fmt.Sprint(list)
}

// tell tells what a shard shows of it.
func (m *model) tell() string {
	list, _ := m.Scan(nil, nil, 1000)
	return fmt.Sprintf("boot %d, %v, %v, next %d, %q, prepared %s, committed %s, locks of %s", m.boot, m.stale, m.sure, m.next, list, m.those("prepared"), m.those("committed"), m.those("working", "prepared"))
}

func (n *node) tell() string {
	list, _ := n.Scan(nil, nil, 0)
	return fmt.Sprintf("boot %d, %v, %v, next %d, %q, prepared %v, committed %v, locks of %v", n.Boot(), n.Stale(), n.Sure(), n.Next(), list, n.Prepared(), n.Committed(), n.Locks().All())
}

// script is a node with its model.
type script struct {
	*node
	rnd    *rand.Rand
	m      model
	asks   int
	counts map[string]int // how often each error of each kind, and each end of a crash, was come to
}

func (c *script) ops() []api.Op {
	key := func() string { return string(rune('a' + c.rnd.Intn(12))) }
	var list []api.Op
	for range c.rnd.Intn(4) {
		switch c.rnd.Intn(12) {
		case 0:
			list = append(list, scan(key(), key(), 1+c.rnd.Intn(4)))
		case 1:
			list = append(list, absent(key()))
		case 2:
			list = append(list, expect(key(), fmt.Sprint(c.rnd.Intn(3))))
		case 3, 4:
			list = append(list, del(key()))
		case 5, 6, 7:
			list = append(list, get(key()))
		case 8:
			list = append(list, api.Op{Kind: c.rnd.Intn(9) - 1, Key: []byte(key()), Most: c.rnd.Intn(40) - 2})
		default:
			list = append(list, put(key(), fmt.Sprint(c.rnd.Intn(3))))
		}
	}
	return list
}

// pick is an ask by chance; most of them fit.
func (c *script) pick() shard.Ask {
	c.asks++
	a := shard.Ask{Kind: 1 + c.rnd.Intn(8), Txn: txn(uint64(c.asks/6 + c.rnd.Intn(8))), Ops: c.ops(), Commit: c.rnd.Intn(2) == 0, Reply: []byte(fmt.Sprint(c.rnd.Intn(99))), Id: uint64(c.rnd.Intn(30)), Name: "b"}
	switch c.rnd.Intn(3) {
	case 0:
		a.Kind = shard.Work
	case 1:
		a.Kind = shard.Ready + c.rnd.Intn(3)
	}
	a = c.to(a)
	switch c.rnd.Intn(40) {
	case 0:
		a.Inc--
	case 1:
		a.Kind = c.rnd.Intn(20) - 5
	case 2, 3:
		a.Boot -= uint64(c.rnd.Intn(3))
	case 4:
		a.Head -= uint64(c.rnd.Intn(2))
	case 5:
		c.head += uint64(c.rnd.Intn(2))
		a.Head = c.head
	case 6:
		if c.rnd.Intn(9) == 0 {
			a.Inc++
		}
	}
	return a
}

// again opens the node behind a crash; its log says whether what was being logged is there.
func (c *script) again(ahead, behind model) {
	c.t.Helper()
	boot := c.Boot() + 1
	c.d.Crash(c.rnd.Intn(1 << 20))
	for c.rnd.Intn(3) == 0 { // one that dies while it is opened counts, or not
		c.d.Arm(c.rnd.Intn(4))
		s, e := shard.Open(c.d, c.v, c.o)
		if e == api.OK {
			boot = s.Boot() + 1
		} else if e != api.ErrDead {
			c.t.Fatalf("P17.1: Open: %d", e)
		}
		c.d.Crash(c.rnd.Intn(1 << 20))
	}
	c.open()
	if c.Boot() < boot || c.Boot() > boot+9 {
		c.t.Fatalf("P17.1: boot %d behind %d", c.Boot(), boot)
	}
	left := ahead
	if c.Next() == behind.next {
		left = behind
	}
	c.counts[fmt.Sprint("left ", behind.next-ahead.next, c.Next()-ahead.next)]++
	c.m = left.opened(c.Boot())
}

// turn does one thing, and looks whether the model does the same.
func (c *script) turn() {
	c.t.Helper()
	ahead := c.m.twin()
	switch c.rnd.Intn(12) {
	case 0:
		c.turnTick()
	case 1:
		if c.rnd.Intn(4) == 0 {
			c.again(ahead, ahead)
		}
	default:
		a := c.pick()
		want := c.m.answer(c.Inc(), a)
		y, e := c.Do(a)
		if e == api.ErrDead {
			c.again(ahead, c.m)
			return
		}
		if y.Err == api.ErrFull && c.m.next > ahead.next { // then nothing happened but that it was heard
			c.m = ahead
			c.m.refuse(c.Inc(), a)
			y.Err, want = api.OK, shard.Answer{Kind: a.Kind, Inc: c.Inc(), Boot: c.Boot(), Txn: a.Txn, Id: a.Id}
			c.counts["full"]++
		}
		if e != api.OK || tell(y) != tell(want) {
			c.t.Fatalf("P17.2: Do(%+v):\n%s, want\n%s", a, tell(y), tell(want))
		}
		c.counts[fmt.Sprint(a.Kind, " ", y.Err)]++
	}
}

func (c *script) turnTick() {
	c.t.Helper()
	ahead := c.m.twin()
	want := c.m.tick(max(c.o.Patience, 1))
	list, e := c.Tick()
	if e == api.ErrDead {
		c.again(ahead, ahead)
		return
	}
	var asked []api.Txn
	for _, d := range list {
		asked = append(asked, d.Txn)
		if d.Inc != c.Inc() || d.Boot != c.Boot() {
			c.t.Fatalf("P17.5: %v", d)
		}
	}
	if e != api.OK || !slices.Equal(asked, want) {
		c.t.Fatalf("P17.5: Tick: %v, %d, want %v", list, e, want)
	}
}

// sound looks whether no two hold ranges that clash, and no transaction is done in two ways.
func (c *script) sound() {
	c.t.Helper()
	all := c.Locks().All()
	for _, x := range all {
		if rivals := c.Locks().Rivals(x, c.Locks().Held(x)...); len(rivals) > 0 {
			c.t.Fatalf("P17.3: %v clashes with %v", x, rivals)
		}
	}
}

func TestScripts(t *testing.T) { // P17.1, P17.2, P17.3, P17.5
	counts := map[string]int{}
	for seed := range int64(150) {
		rnd := rand.New(rand.NewSource(seed))
		o := plain
		o.Patience, o.Every, o.Most = rnd.Intn(5)-1, rnd.Intn(9)-1, rnd.Intn(400)
		room := 1 << 22
		if seed%3 == 0 {
			room = 100 + rnd.Intn(1500)
		}
		c := &script{node: newNodeIn(t, o, room), rnd: rnd, m: newModel(), counts: counts}
		c.m.boot = 1
		for range 250 {
			if rnd.Intn(12) == 0 {
				c.d.Arm(rnd.Intn(9))
			}
			c.turn()
			c.sound()
			if got, want := c.tell(), c.m.tell(); got != want {
				t.Fatalf("P17.2: seed %d: the shard is\n%s, not\n%s", seed, got, want)
			}
		}
	}
	for _, what := range strings.Split("full,left 0 0,left 1 0,left 1 1,0 3,1 0,1 10,1 19,2 0,2 1,2 3,2 10,2 11,2 12,2 13,2 19,3 0,3 13,4 0,4 13,5 0,6 0,7 0,8 0,8 7", ",") {
		if counts[what] == 0 {
			t.Errorf("it never came to %q: %v", what, counts)
		}
	}
}
