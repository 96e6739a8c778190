package shard_test

import (
	"math"
	"strings"
	"testing"

	"groyne/api"
	"groyne/drive"
	"groyne/pack"
	"groyne/parity"
	"groyne/shard"
	"groyne/store"
	"groyne/vault"
)

func shelves() vault.Shelf { return vault.Shelf{Vault: vault.New(), Prefix: "n0/"} }

func TestBoots(t *testing.T) { // P17.1
	for _, inc := range []uint64{0, 1, 9, math.MaxUint64} {
		d, v := drive.New(1<<16), shelves()
		answers(t, "Format", shard.Format(d, inc, plain), api.OK)
		if d.Queue() != 0 {
			t.Errorf("P17.1: Format isn't safe")
		}
		for boot := uint64(1); boot < 5; boot++ {
			d.Crash(0)
			s, e := shard.Open(d, v, plain)
			if e != api.OK || s.Boot() != boot || s.Inc() != inc || s.Stale() || s.Sure() {
				t.Fatalf("P17.1: Open: %d, boot %d of %d, want %d", e, s.Boot(), s.Inc(), boot)
			}
			if size, _ := s.Len(); s.Next() != 0 || size != 0 || len(s.Prepared()) != 0 {
				t.Errorf("P17.1: the shard isn't empty")
			}
			if len(d.List("")) != 2 {
				t.Errorf("P17.1: with each boot more lies there: %q", d.List(""))
			}
		}
	}
}

func TestWhereThingsLie(t *testing.T) { // P17.1
	if shard.Identity() != "node" || shard.Prefix() != "s/" {
		t.Errorf("P17.1: Identity %q, Prefix %q", shard.Identity(), shard.Prefix())
	}
	if got := shard.Shelf(shelves(), 255).Path("x"); got != "n0/00000000000000ff/x" {
		t.Errorf("P17.1: the shelf is %q", got)
	}
	n := newNode(t, plain)
	n.ask(work(1, put("a", "1")))
	n.ask(single(1, "r"))
	for _, name := range n.d.List("") {
		if !strings.HasPrefix(name, "node") && !strings.HasPrefix(name, "s/") {
			t.Errorf("P17.1: %q lies on the drive", name)
		}
	}
	s, e := store.Open(n.d.Twin(), "s/", plain.Options)
	if e != api.OK || len(s.Committed()) != 1 {
		t.Errorf("P17.1: no store lies under s/: %d", e)
	}
}

func TestNothingLiesThere(t *testing.T) { // P17.1
	for what, lay := range map[string]func(d *drive.Drive){
		"a wiped drive":           func(d *drive.Drive) {},
		"a store alone":           func(d *drive.Drive) { s, _ := store.Open(d, "s/", plain.Options); s.Checkpoint() },
		"junk under s/":           func(d *drive.Drive) { d.Append("s/tree/index", []byte("junk")) },
		"one that was begun":      func(d *drive.Drive) { d.Append("node~", []byte("junk")) },
		"one that lost its name":  func(d *drive.Drive) { shard.Format(d, 1, plain); d.Remove("node") },
		"one that was wiped":      func(d *drive.Drive) { shard.Format(d, 1, plain); d.Wipe() },
		"one that was cleared":    func(d *drive.Drive) { shard.Format(d, 1, plain); drive.Clear(d, shard.Identity()) },
		"files of somebody else":  func(d *drive.Drive) { d.Append("h/log.1", nil); d.Append("Node", nil) },
		"a name that isn't whole": func(d *drive.Drive) { d.Append("nod", nil); d.Append("nodes", nil) },
	} {
		d := drive.New(1 << 16)
		lay(d)
		ahead := files(d)
		if s, e := shard.Open(d, shelves(), plain); e != api.ErrNone || s != nil || files(d) != ahead {
			t.Errorf("P17.1: %s: %v, %d", what, s, e)
		}
	}
}

func TestWhatIsntSo(t *testing.T) { // P17.1
	spoil := func(b []byte) func(d *drive.Drive) {
		return func(d *drive.Drive) { drive.Replace(d, "node", b) }
	}
	for what, lay := range map[string]func(d *drive.Drive){
		"an empty name":      spoil(nil),
		"junk":               spoil([]byte("junk")),
		"two numbers":        spoil(parity.Wrap(pack.Number(1, 2))),
		"nothing said":       spoil(parity.Wrap(nil)),
		"a spoilt byte":      func(d *drive.Drive) { d.Write("node", 0, []byte{9}) },
		"a store that isn't": func(d *drive.Drive) { d.Append("s/tree/index", []byte("junk")) },
	} {
		d := drive.New(1 << 16)
		shard.Format(d, 1, plain)
		lay(d)
		for range 2 {
			if s, e := shard.Open(d, shelves(), plain); e != api.ErrForm || s != nil {
				t.Errorf("P17.1: %s: %v, %d", what, s, e)
			}
		}
		d.Remove("s/tree/index")
		shard.Identify(d, 4)
		if s, e := shard.Open(d, shelves(), plain); e != api.OK || s.Boot() != 1 || s.Inc() != 4 {
			t.Errorf("P17.1: %s: mended: %d", what, e)
		}
	}
}

func TestBootsOfOpensThatFail(t *testing.T) { // P17.1: only one that answered OK counts, or one that died
	d := drive.New(1 << 16)
	shard.Format(d, 1, plain)
	shard.Open(d, shelves(), plain)
	d.Append("s/tree/index", []byte("junk"))
	shard.Open(d, shelves(), plain)
	shard.Open(d, shelves(), plain)
	d.Remove("s/tree/index")
	if s, e := shard.Open(d, shelves(), plain); e != api.OK || s.Boot() != 2 {
		t.Errorf("P17.1: %d: boot %d", e, s.Boot())
	}
}

func TestFormatIsRefused(t *testing.T) { // P17.1
	for _, name := range []string{"node", "node~", "s/log.1", "x", ""} {
		d := drive.New(1 << 16)
		d.Append(name, nil)
		ahead := files(d)
		answers(t, "Format", shard.Format(d, 1, plain), api.ErrThere)
		if files(d) != ahead {
			t.Errorf("P17.1: %q lies there, but Format changed something", name)
		}
	}
	d := drive.New(0)
	answers(t, "Format without room", shard.Format(d, 1, plain), api.ErrFull)
	if len(d.List("")) > 0 {
		t.Errorf("P17.1: something lies there: %q", d.List(""))
	}
	d.Arm(0)
	d.Flush()
	answers(t, "Format of a dead drive", shard.Format(d, 1, plain), api.ErrDead)
	answers(t, "Identify of a dead drive", shard.Identify(d, 1), api.ErrDead)
	if s, e := shard.Open(d, shelves(), plain); e != api.ErrDead || s != nil {
		t.Errorf("P17.1: Open of a dead drive: %d", e)
	}
}

func TestFullDrive(t *testing.T) { // P17.1
	d := drive.New(1 << 10)
	shard.Format(d, 1, plain)
	d.Append("x", make([]byte, 1<<10-d.Used()))
	for boot := uint64(1); boot < 4; boot++ {
		if s, e := shard.Open(d, shelves(), plain); e != api.OK || s.Boot() != boot || d.Queue() != 0 {
			t.Fatalf("P17.1: Open: %d", e)
		}
		d.Crash(0)
	}
}

func TestFormatIsCut(t *testing.T) { // P17.1: behind a crash there is a shard, or none
	counts := map[api.Errno]int{}
	for n := 0; ; n++ {
		d := drive.New(1 << 16)
		d.Arm(n)
		e := shard.Format(d, 5, plain)
		if e == api.OK {
			break
		}
		answers(t, "Format", e, api.ErrDead)
		for keep := range 60 {
			d := d.Twin()
			d.Crash(keep)
			s, e := shard.Open(d, shelves(), plain)
			counts[e]++
			if e == api.OK && (s.Boot() != 1 || s.Inc() != 5) || e != api.OK && e != api.ErrNone {
				t.Fatalf("P17.1: cut at %d, %d kept: %d", n, keep, e)
			}
		}
	}
	if counts[api.OK] == 0 || counts[api.ErrNone] == 0 {
		t.Errorf("P17.1: %v", counts)
	}
}

func TestOpenIsCut(t *testing.T) { // P17.1: what died may count
	n := newNode(t, plain)
	n.ask(work(1, put("a", "1")))
	n.ask(ready(1))
	n.ask(work(2, put("b", "2")))
	n.ask(single(2, "r"))
	ahead := n.look()
	boots := map[uint64]int{}
	for deeds := 0; ; deeds++ {
		d := n.d.Twin()
		d.Arm(deeds)
		s, e := shard.Open(d, n.v, plain)
		if e == api.OK {
			break
		} else if e != api.ErrDead || s != nil {
			t.Fatalf("P17.1: cut at %d: %d", deeds, e)
		}
		for keep := range 60 {
			again := &node{t: t, d: d.Twin(), v: n.v, o: plain}
			again.crash(keep)
			boots[again.Boot()]++
			if again.look() != ahead {
				t.Fatalf("P17.1: cut at %d, %d kept: %s", deeds, keep, again.look())
			}
		}
	}
	if boots[2] == 0 || boots[3] == 0 || len(boots) != 2 {
		t.Errorf("P17.1: boots %v", boots)
	}
}

func TestIdentify(t *testing.T) { // P17.1: as if it had been formatted so
	n := newNode(t, plain)
	n.ask(work(1, put("a", "1")))
	n.ask(single(1, "r"))
	ahead := n.look()
	n.crash(0)
	answers(t, "Identify", shard.Identify(n.d, 8), api.OK)
	n.crash(0)
	if n.Inc() != 8 || n.Boot() != 1 || n.Stale() || n.Sure() || n.look() != ahead {
		t.Errorf("P17.1: boot %d of %d, %s", n.Boot(), n.Inc(), n.look())
	}
	n.ask(backup(1))
	if got := n.v.List("n0/0000000000000008/base."); len(got) != 1 {
		t.Errorf("P17.1: the backups are %q", n.v.List(""))
	}
}
