package twopc_test

import (
	"fmt"
	"math/rand"
	"slices"
	"testing"

	"groyne/api"
	"groyne/branch"
	"groyne/drive"
	"groyne/hlog"
	"groyne/shard"
	"groyne/store"
	"groyne/twopc"
	"groyne/vault"
)

// node is a shard with its drive.
type node struct {
	*shard.Shard
	d *drive.Drive
	o shard.Options
}

// packet is an ask to a shard, or (back) its answer.
type packet struct {
	at     int
	back   bool
	ask    shard.Ask
	answer shard.Answer
}

// town is a few shards, and a plain head that has coordinators see transactions through.
type town struct {
	t      *testing.T
	r      *rand.Rand
	splits [][]byte
	nodes  []*node
	boots  []uint64 // the shards', as they were heard last
	d      *drive.Drive
	log    *hlog.Log
	boot   uint64
	coords map[api.Txn]*twopc.Coord
	txns   []api.Txn
	ops    map[api.Txn][]api.Op
	told   map[api.Txn]string
	net    []packet
}

func newTown(t *testing.T, seed int64, splits [][]byte) *town {
	w := &town{t: t, r: rand.New(rand.NewSource(seed)), splits: splits, d: drive.New(1 << 22), ops: map[api.Txn][]api.Op{}, told: map[api.Txn]string{}}
	for range len(splits) + 1 {
		n := &node{d: drive.New(1 << 22), o: shard.Options{Options: store.Options{Hand: 4, Most: 300}, Patience: 3}}
		w.is("Format", shard.Format(n.d, 1, n.o))
		w.nodes = append(w.nodes, n)
		w.boots = append(w.boots, 0)
		w.reopen(len(w.nodes) - 1)
	}
	w.restart()
	return w
}

func (w *town) is(what string, e api.Errno) {
	w.t.Helper()
	if e != api.OK {
		w.t.Fatalf("P19.2: %s: %d", what, e)
	}
}

// reopen has a shard begin anew, behind a crash.
func (w *town) reopen(at int) {
	n := w.nodes[at]
	n.d.Crash(w.r.Intn(4))
	s, e := shard.Open(n.d, vault.Shelf{Vault: vault.New()}, n.o)
	w.is("Open", e)
	n.Shard = s
}

// restart has the head begin anew: it knows its log, and nothing else.
func (w *town) restart() {
	w.d.Crash(w.r.Intn(4))
	log, e := hlog.Open(w.d, "h/", 300)
	w.is("hlog.Open", e)
	w.log, w.coords = log, map[api.Txn]*twopc.Coord{}
	w.boot++
	for _, x := range log.Open() {
		d, _ := log.Decision(x)
		w.take(x, twopc.Resume(x, d))
	}
}

func (w *town) take(x api.Txn, c *twopc.Coord) {
	w.coords[x] = c
	w.send(c.Begin())
}

func (w *town) send(list []twopc.Send) {
	for _, s := range list {
		s.Ask.Inc, s.Ask.Head, s.Ask.Boot = 1, w.boot, w.boots[s.Shard]
		if s.Ask.Boot > 0 || s.Ask.Kind != shard.Work {
			w.net = append(w.net, packet{at: s.Shard, ask: s.Ask})
		}
	}
}

// hello asks each shard for its boot.
func (w *town) hello() {
	for at := range w.nodes {
		w.send([]twopc.Send{{Shard: at, Ask: shard.Ask{Kind: shard.Hello}}})
	}
}

// call begins a transaction that adds its name to what a few keys have, or looks at them.
func (w *town) call() {
	x := api.Txn{Boot: w.boot, Seq: uint64(len(w.txns))}
	var ops []api.Op
	for range 1 + w.r.Intn(3) {
		key := string("abcdefuvwxyz"[w.r.Intn(12)])
		ops = append(ops, get(key))
		if w.r.Intn(2) > 0 {
			ops = append(ops, put(key, fmt.Sprint(x.Seq)))
		}
	}
	w.txns, w.ops[x] = append(w.txns, x), ops
	w.take(x, twopc.New(x, w.splits, ops, 1+w.r.Intn(6)))
}

// inquire has everything looked after that nobody looks after.
func (w *town) inquire(x api.Txn) {
	d, decided := w.log.Decision(x)
	switch {
	case w.coords[x] != nil:
	case decided:
		w.tell(x, d.Reply)
	default:
		w.take(x, twopc.Inquire(x, len(w.nodes), 3))
	}
}

// tell holds a reply against what was replied ahead.
func (w *town) tell(x api.Txn, reply []byte) {
	w.t.Helper()
	if told, has := w.told[x]; has && told != string(reply) {
		w.t.Fatalf("P19.2: %v is told %q, and was told %q", x, reply, told)
	}
	w.told[x] = string(reply)
}

// deliver takes a packet out of the net, and brings it.
func (w *town) deliver(i int) {
	p := w.net[i]
	w.net = slices.Delete(w.net, i, i+1)
	w.bring(p)
}

func (w *town) bring(p packet) {
	if !p.back {
		a, e := w.nodes[p.at].Do(p.ask)
		if e != api.OK {
			w.reopen(p.at)
		} else {
			w.net = append(w.net, packet{at: p.at, back: true, answer: a})
		}
		return
	}
	// What an earlier boot did may be gone by now.
	if p.answer.Boot < w.boots[p.at] {
		return
	}
	w.boots[p.at] = p.answer.Boot
	if c := w.coords[p.answer.Txn]; c != nil {
		w.send(c.Answer(p.at, p.answer))
	}
}

// serve gives coordinators what they want; false: the head died.
func (w *town) serve(open bool) bool {
	for _, x := range w.txns {
		c := w.coords[x]
		if c == nil {
			continue
		}
		if c.Wants() == twopc.Gate && open {
			w.send(c.Open())
		}
		if c.Wants() == twopc.Decide || c.Wants() == twopc.End {
			if _, e := w.log.Append(c.Record()); e == api.ErrDead {
				return false
			} else {
				w.is("Append", e)
			}
			w.send(c.Logged())
		}
		if reply, certain := c.Reply(); certain {
			w.tell(x, reply)
		}
		if c.Over() && len(c.Retry()) > 0 {
			w.t.Fatalf("P19.3: %v is over, and sends", x)
		}
	}
	return true
}

// event has one thing happen.
func (w *town) event() {
	switch n := w.r.Intn(100); {
	case n < 4:
		w.call()
	case n < 6 && len(w.net) > 0: // doubled
		w.bring(w.net[w.r.Intn(len(w.net))])
	case n < 8 && len(w.net) > 0: // lost
		i := w.r.Intn(len(w.net))
		w.net = slices.Delete(w.net, i, i+1)
	case n < 10:
		w.again()
	case n < 11:
		w.hello()
	case n < 13:
		for _, x := range w.txns {
			if c := w.coords[x]; c != nil {
				c.Tick()
			}
		}
	case n < 14 && w.r.Intn(3) == 0:
		at := w.r.Intn(len(w.nodes))
		if w.nodes[at].d.Arm(w.r.Intn(8)); w.r.Intn(2) == 0 {
			w.reopen(at)
		}
	case n < 15 && len(w.txns) > 0:
		w.inquire(w.txns[w.r.Intn(len(w.txns))])
	case n < 16 && w.r.Intn(4) == 0:
		w.d.Arm(w.r.Intn(4))
	case len(w.net) > 0:
		w.deliver(w.r.Intn(len(w.net)))
	}
	if !w.serve(w.r.Intn(2) == 0) {
		w.restart()
	}
}

// again sends once more what is unanswered.
func (w *town) again() {
	for _, x := range w.txns {
		if c := w.coords[x]; c != nil {
			w.send(c.Retry())
		}
	}
}

// calm has all be sent and answered, till all are over.
func (w *town) calm() {
	for at := range w.nodes {
		w.reopen(at)
	}
	w.restart()
	for _, x := range w.txns {
		w.inquire(x)
	}
	for range 12 {
		w.hello()
		w.again()
		for len(w.net) > 0 {
			w.deliver(0)
		}
		w.serve(true)
	}
	for _, x := range w.txns {
		if c := w.coords[x]; c != nil && !c.Over() {
			w.t.Errorf("P19.3: %v isn't over: it wants %d, and sends %+v", x, c.Wants(), c.Retry())
		}
	}
}

// look holds what the shards have against what was told.
func (w *town) look() {
	for at, n := range w.nodes {
		if len(n.Prepared()) > 0 || len(n.Locks().All()) > 0 {
			w.t.Errorf("P19.3: shard %d still has %v, and locks of %v", at, n.Prepared(), n.Locks().All())
		}
	}
	ahead := map[string]api.Txn{} // who read what of a key, and wrote it
	for _, x := range w.txns {
		o, e := branch.ToReply([]byte(w.told[x]))
		if e != api.OK {
			w.t.Fatalf("P19.3: the reply of %v: %q", x, w.told[x])
		}
		parts := branch.Parts(w.splits, w.ops[x]...)
		for at, n := range w.nodes {
			touched := slices.ContainsFunc(parts, func(p branch.Part) bool { return p.Shard == at })
			if known, _ := n.Known(x); known.Commit != (touched && o.Err == api.OK) {
				w.t.Errorf("P19.2: %v is told %d, and shard %d has committed it: %v", x, o.Err, at, known.Commit)
			}
		}
		w.chain(x, o, ahead)
	}
}

// chain looks whether each write of a key was built on one of its own: so they stand in a row.
func (w *town) chain(x api.Txn, o branch.Outcome, ahead map[string]api.Txn) {
	ops := w.ops[x]
	for i := 1; o.Err == api.OK && i < len(ops); i++ {
		if ops[i].Kind != api.Put || slices.ContainsFunc(ops[:i], func(op api.Op) bool { return op.Kind == api.Put && string(op.Key) == string(ops[i].Key) }) {
			continue
		}
		read := fmt.Sprintf("%s %q", ops[i].Key, o.Rows[i-1])
		if y, has := ahead[read]; has {
			w.t.Errorf("P19.2: %v and %v are both built on %s", x, y, read)
		}
		ahead[read] = x
	}
}

func TestTown(t *testing.T) { // P19.2, P19.3
	committed, given, singles := 0, 0, 0
	for seed := range int64(60) {
		w := newTown(t, seed, [][][]byte{nil, splits("m"), splits("b", "y")}[seed%3])
		w.hello()
		for range 1000 {
			w.event()
		}
		w.calm()
		w.look()
		if t.Failed() {
			t.Fatalf("seed %d", seed)
		}
		for _, told := range w.told {
			if o, _ := branch.ToReply([]byte(told)); o.Err == api.OK {
				committed++
			} else {
				given++
			}
		}
		for _, n := range w.nodes {
			singles += len(n.Ones())
		}
	}
	if committed < 200 || given < 200 || singles < 200 || singles > committed-200 {
		t.Errorf("%d committed, %d of them on a single shard; %d given up", committed, singles, given)
	}
}
