package dump_test

import (
	"fmt"
	"maps"
	"math/rand"
	"slices"
	"testing"

	"groyne/api"
	"groyne/drive"
	"groyne/dump"
	"groyne/rec"
	"groyne/vault"
)

// script is a node that goes on by chance, with backups beside it.
type script struct {
	*node
	rnd      *rand.Rand
	v        vault.Shelf
	seq      uint64
	open     map[uint64]uint64 // from where on each backup that isn't finished goes
	finished map[uint64]dump.Base
}

func newScript(t *testing.T, seed int64) *script {
	return &script{node: with(t), rnd: rand.New(rand.NewSource(seed)), v: shelf(), open: map[uint64]uint64{}, finished: map[uint64]dump.Base{}}
}

func (c *script) writes() []api.Write {
	var list []api.Write
	for range c.rnd.Intn(4) {
		key := fmt.Sprint(c.rnd.Intn(30))
		if c.rnd.Intn(3) == 0 {
			list = append(list, gone(key))
		} else {
			list = append(list, put(key, fmt.Sprint(c.rnd.Intn(1000))))
		}
	}
	return list
}

// record is one that can be done, as long as no lock is in its way.
func (c *script) record() rec.Rec {
	c.seq++
	if open := c.Prepared(); len(open) > 0 && c.rnd.Intn(3) == 0 {
		x := open[c.rnd.Intn(len(open))]
		return rec.Rec{Kind: []int{rec.Commit, rec.Commit, rec.Abort}[c.rnd.Intn(3)], Txn: x}
	}
	switch c.rnd.Intn(5) {
	case 0:
		return mark(c.seq)
	case 1, 2:
		return one(c.seq, c.writes()...)
	}
	return prepare(c.seq, c.writes()...)
}

// turn does one thing; false: the drive died.
func (c *script) turn() bool {
	switch c.rnd.Intn(10) {
	case 0:
		return c.Checkpoint() == api.OK
	case 1:
		return c.Log().Close() == api.OK
	case 2:
		c.Keep(c.Next() - uint64(c.rnd.Intn(int(c.Next())+1)))
	case 3:
		return c.begin()
	case 4, 5:
		return c.step()
	default:
		r := c.record()
		if _, e := c.Append(r); e != api.ErrArg {
			c.records = append(c.records, r.Bytes())
			return e == api.OK
		}
	}
	return true
}

func (c *script) begin() bool {
	id := uint64(c.rnd.Intn(12))
	e := dump.Begin(c.Store, c.v, id)
	_, open := c.open[id]
	_, finished := c.finished[id]
	if open || finished {
		answers(c.t, "Begin", e, api.ErrThere)
		return true
	}
	answers(c.t, "Begin", e, api.OK)
	c.open[id] = c.Next()
	return true
}

func (c *script) step() bool {
	id := uint64(c.rnd.Intn(12))
	done, e := dump.Step(c.Store, c.v, id, c.rnd.Intn(7)-1)
	if e == api.ErrDead {
		return false
	}
	from, open := c.open[id]
	_, finished := c.finished[id]
	switch {
	case open && done:
		c.finished[id] = dump.Base{Id: id, From: from, To: c.Next()}
		delete(c.open, id)
	case open:
		answers(c.t, "Step", e, api.OK)
	case finished != done || finished != (e == api.OK) || !finished && e != api.ErrNone:
		c.t.Fatalf("Step(%d) = %v, %d", id, done, e)
	}
	return true
}

func (c *script) look() {
	c.t.Helper()
	var all []dump.Base
	for _, id := range slices.Sorted(maps.Keys(c.finished)) {
		all = append(all, c.finished[id])
	}
	if !slices.Equal(dump.Finished(c.v), all) || !slices.Equal(dump.Open(c.v), slices.Sorted(maps.Keys(c.open))) {
		c.t.Fatalf("P15.1: Finished = %v, Open = %v, want %v, %v", dump.Finished(c.v), dump.Open(c.v), all, c.open)
	}
	at := uint64(c.rnd.Intn(len(c.records) + 1))
	best, found := dump.Base{}, false
	for _, b := range all {
		if b.To <= at && (!found || b.To >= best.To) {
			best, found = b, true
		}
	}
	if b, ok := dump.Choose(c.v, at); ok != found || b != best {
		c.t.Fatalf("P15.3: Choose(%d) = %v, %v, want %v", at, b, ok, best)
	}
}

// compare restores all that is finished, up to a few indexes.
func (c *script) compare() {
	for _, b := range c.finished {
		if b.To > c.Next() {
			c.t.Fatalf("P15.2: %v ends behind %d", b, c.Next())
		}
		for _, at := range []uint64{b.To, b.To + uint64(c.rnd.Intn(int(c.Next()-b.To)+1)), c.Next()} {
			s, e := dump.Restore(drive.New(1<<22), prefix, plain, c.v, b, c.records[b.From:at]...)
			if e != api.OK {
				c.t.Fatalf("P15.2: Restore(%v) up to %d: %d", b, at, e)
			}
			if got, want := tell(c.t, s), c.at(at); got != want {
				c.t.Fatalf("P15.2: %v up to %d: the store is\n%s, not\n%s", b, at, got, want)
			}
		}
	}
}

func TestScripts(t *testing.T) { // P15.1, P15.2, P15.3
	finished, crashes := 0, 0
	for seed := range int64(60) {
		c := newScript(t, seed)
		for range 150 {
			if c.rnd.Intn(15) == 0 {
				c.d.Arm(c.rnd.Intn(8))
			}
			if !c.turn() || c.rnd.Intn(30) == 0 {
				crashes++
				c.crash(c.rnd.Intn(1 << 20))
			}
			c.look()
		}
		c.compare()
		finished += len(c.finished)
	}
	if finished < 60 || crashes < 60 {
		t.Errorf("only %d backups were finished, with %d crashes", finished, crashes)
	}
}
