package dump_test

import (
	"bytes"
	"fmt"
	"math"
	"slices"
	"strings"
	"testing"

	"groyne/api"
	"groyne/drive"
	"groyne/dump"
	"groyne/rec"
	"groyne/store"
	"groyne/vault"
)

// backedUp is a node with a backup, number 3, of a few pieces, that goes from 4 to 6; some records are behind it.
func backedUp(t *testing.T) (*node, vault.Shelf, dump.Base) {
	t.Helper()
	n, v := with(t, one(1, put("a", "1"), put("b", "1"), put("c", "1")), mark(7), prepare(2, put("d", "2")), prepare(3, put("e", "3"))), shelf()
	begins(t, n, v, 3)
	steps(t, n, v, 3, 1, false)
	n.add(commit(2))
	steps(t, n, v, 3, 2, false)
	n.add(one(4, put("aa", "4"), gone("b")))
	steps(t, n, v, 3, 2, true)
	n.add(abort(3), mark(8), prepare(5, put("a", "5")))
	return n, v, dump.Base{Id: 3, From: 4, To: 6}
}

func TestRestore(t *testing.T) { // P15.2
	n, v, b := backedUp(t)
	if l := dump.Finished(v); len(l) != 1 || l[0] != b {
		t.Fatalf("Finished = %v", l)
	}
	n.whole(v, b)
	if s := restored(t, v, b, n.records[4:]...); s.Log().First() != 4 || s.Log().Next() != 9 {
		t.Errorf("the log goes from %d to %d", s.Log().First(), s.Log().Next())
	}
	d := drive.New(1 << 20)
	d.Append("node", []byte("else"))
	s, e := dump.Restore(d, prefix, store.Options{Hand: -1, Most: -1}, v, b, n.records[4:]...)
	if e != api.OK || tell(t, s) != n.at(9) || d.Size("node") != 4 {
		t.Errorf("Restore beside another file: %d", e)
	}
	for _, name := range d.List("") {
		if name != "node" && !strings.HasPrefix(name, prefix) {
			t.Errorf("there is a file %s", name)
		}
	}
	if _, e := s.Append(commit(5)); e != api.OK || s.Next() != 10 {
		t.Errorf("Append: %d", e)
	}
}

// refuses looks whether Restore answers an error, and leaves the drive alone.
func refuses(t *testing.T, what string, d *drive.Drive, v vault.Shelf, b dump.Base, want api.Errno, records ...[]byte) {
	t.Helper()
	ahead := fmt.Sprint(d.List(""), d.Used(), d.Queue())
	leaves(t, what, v, func() {
		s, e := dump.Restore(d, prefix, plain, v, b, records...)
		if answers(t, what, e, want); s != nil {
			t.Errorf("%s: a store beside an error", what)
		}
	})
	if now := fmt.Sprint(d.List(""), d.Used(), d.Queue()); now != ahead {
		t.Errorf("%s: the drive has changed: %s, not %s", what, now, ahead)
	}
}

func TestRecordsThatCant(t *testing.T) { // P15.1, P15.2
	n, v, b := backedUp(t)
	good := n.records[4:]
	tooLong := one(9)
	tooLong.Reply = make([]byte, api.MaxRecord)
	join := func(records ...[]byte) [][]byte { return slices.Concat(good, records) }
	for what, c := range map[string]struct {
		records [][]byte
		want    api.Errno
	}{
		"no record":              {join(nil), api.ErrForm},
		"junk":                   {join([]byte("junk")), api.ErrForm},
		"junk ahead":             {slices.Concat([][]byte{{9}}, good), api.ErrForm},
		"of the head's":          {join(rec.Rec{Kind: rec.Cut, Id: 1}.Bytes()), api.ErrForm},
		"known already":          {join(one(1).Bytes()), api.ErrForm},
		"done already":           {join(commit(2).Bytes()), api.ErrForm},
		"not prepared":           {join(commit(9).Bytes()), api.ErrForm},
		"a barrier that stands":  {join(mark(7).Bytes()), api.ErrForm},
		"twice":                  {slices.Concat(good, good), api.ErrForm},
		"from elsewhere on":      {n.records[3:], api.ErrForm},
		"from later on":          {n.records[7:], api.OK},
		"locked":                 {join(prepare(9, put("a", "9")).Bytes()), api.ErrForm},
		"a key that is too long": {join(one(9, put(strings.Repeat("k", 65), "")).Bytes()), api.ErrForm},
		"too long":               {join(tooLong.Bytes()), api.ErrSize},
		"too long, and no other": {join(tooLong.Bytes(), one(9).Bytes()), api.ErrForm},
	} {
		d := drive.New(1 << 20)
		if c.want == api.OK {
			restored(t, v, b, c.records...)
			continue
		}
		refuses(t, what, d, v, b, c.want, c.records...)
		if c.want == api.ErrForm {
			d.Append(prefix+"x", nil)
			refuses(t, what+", where something lies", d, v, b, c.want, c.records...)
			d.Arm(0)
			d.Flush()
			refuses(t, what+", on a dead drive", d, v, b, c.want, c.records...)
		}
	}
	other := b
	other.Id = 4
	refuses(t, "junk, and no backup", drive.New(0), v, other, api.ErrForm, []byte("junk"))
}

func TestOtherBackups(t *testing.T) { // P15.4
	n, v, b := backedUp(t)
	begins(t, n, v, 5)
	for what, b := range map[string]dump.Base{
		"nothing":            {},
		"no such one":        {Id: 4, From: 4, To: 6},
		"a From too low":     {Id: 3, From: 3, To: 6},
		"a From too high":    {Id: 3, From: 5, To: 6},
		"a To too low":       {Id: 3, From: 4, To: 5},
		"a To too high":      {Id: 3, From: 4, To: 7},
		"one that is open":   {Id: 5, From: 9, To: 9},
		"the open one's Id":  {Id: 5},
		"another, with ends": {Id: math.MaxUint64, From: math.MaxUint64, To: math.MaxUint64},
	} {
		d := drive.New(1 << 20)
		refuses(t, what, d, v, b, api.ErrNotArchived)
		refuses(t, what+", with a record", d, v, b, api.ErrNotArchived, mark(1).Bytes())
		d.Append(prefix, nil)
		refuses(t, what+", where something lies", d, v, b, api.ErrNotArchived)
	}
	refuses(t, "another shelf", drive.New(1<<20), v.Sub("x"), b, api.ErrNotArchived)
}

func TestRestoreOnOtherDrives(t *testing.T) { // P15.1
	n, v, b := backedUp(t)
	d := drive.New(1 << 20)
	d.Append(prefix+"tree/x", []byte("else"))
	refuses(t, "something lies there", d, v, b, api.ErrThere, n.records[4:]...)
	d = drive.New(1 << 20)
	d.Arm(0)
	d.Flush()
	refuses(t, "a dead drive", d, v, b, api.ErrDead, n.records[4:]...)
	full := 0
	for room := 0; ; room += 40 {
		d := drive.New(room)
		d.Append("node", []byte("else"))
		d.Flush()
		s, e := dump.Restore(d, prefix, plain, v, b, n.records[4:]...)
		if e == api.OK {
			if tell(t, s) != n.at(9) {
				t.Errorf("P15.2: with %d bytes of room it isn't the same store", room)
			}
			break
		}
		full++
		refuses(t, "a full drive", d, v, b, api.ErrFull, n.records[4:]...)
	}
	if full < 10 {
		t.Errorf("only %d drives were full", full)
	}
}

func TestRestoreIsCut(t *testing.T) { // P15.2: it may be cleared, and begun again
	n, v, b := backedUp(t)
	var may []string
	may = append(may, tell(t, with(t).Store))
	for at := b.From; at <= n.Next(); at++ {
		may = append(may, tell(t, restored(t, v, b, n.records[b.From:at]...)))
	}
	for cut := 0; ; cut++ {
		d := drive.New(1 << 20)
		d.Arm(cut)
		s, e := dump.Restore(d, prefix, plain, v, b, n.records[4:]...)
		if e == api.OK {
			break
		}
		if answers(t, "Restore", e, api.ErrDead); s != nil {
			t.Fatal("a store beside an error")
		}
		for keep := range 60 {
			d := d.Twin()
			d.Crash(keep*17 - 1)
			s, e := store.Open(d, prefix, plain)
			if e != api.OK || !slices.Contains(may, tell(t, s)) {
				t.Fatalf("cut at %d, %d kept: Open: %d", cut, keep, e)
			}
			drive.Clear(d)
			if s, e := dump.Restore(d, prefix, plain, v, b, n.records[4:]...); e != api.OK || tell(t, s) != n.at(9) {
				t.Fatalf("cut at %d, %d kept: Restore again: %d", cut, keep, e)
			}
		}
	}
}

func TestRestoreTakesOptions(t *testing.T) { // P15.2
	n, v, b := backedUp(t)
	for most, files := range map[int]int{1: 4, 1 << 16: 1} {
		s, e := dump.Restore(drive.New(1<<20), prefix, store.Options{Hand: 2, Most: most}, v, b, n.records[4:]...)
		if e != api.OK {
			t.Fatal(e)
		}
		s.Append(mark(30))
		s.Append(mark(31))
		if got := len(s.Log().Spans()); got != files {
			t.Errorf("files full after %d bytes: there are %d", most, got)
		}
		if s.Hand() > 2 {
			t.Errorf("%d pages are at hand", s.Hand())
		}
	}
}

func TestRestoreHoldsManyPairs(t *testing.T) { // P15.2
	n, v := with(t), shelf()
	for i := range 300 {
		n.add(one(uint64(i), put(fmt.Sprintf("key%d", i*7%300), strings.Repeat("v", i%129)), put(fmt.Sprint(i), "")))
		if i == 20 {
			begins(t, n, v, 0)
		}
		if i > 20 && i%10 == 0 {
			dump.Step(n.Store, v, 0, 8)
		}
	}
	for done := false; !done; {
		done, _ = dump.Step(n.Store, v, 0, 50)
	}
	b := dump.Finished(v)[0]
	if got := tell(t, restored(t, v, b, n.records[b.From:]...)); b.From != 21 || b.To < 100 || got != n.at(300) {
		t.Errorf("%v isn't the store", b)
	}
}

func TestMemory(t *testing.T) { // P15.2
	n, v, b := backedUp(t)
	var records [][]byte
	for _, record := range n.records[4:] {
		records = append(records, append(make([]byte, 0, len(record)+9), record...))
	}
	d := drive.New(1 << 20)
	s, e := dump.Restore(d, prefix, plain, v, b, records...)
	if e != api.OK {
		t.Fatal(e)
	}
	for i, record := range records {
		room := record[len(record):cap(record)]
		if !bytes.Equal(record, n.records[4+i]) || !bytes.Equal(room, make([]byte, len(room))) {
			t.Errorf("the record %d was changed", i)
		}
		record = record[:cap(record)]
		for i := range record {
			record[i] = '!'
		}
	}
	clear(records)
	if tell(t, s) != n.at(9) {
		t.Error("the store has kept what was handed in")
	}
}
