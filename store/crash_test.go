package store_test

import (
	"fmt"
	"slices"
	"testing"

	"groyne/api"
	"groyne/drive"
	"groyne/journal"
	"groyne/pack"
	"groyne/pages"
	"groyne/parity"
	"groyne/rec"
	"groyne/store"
)

// crowd are so many transactions of two records each, with a barrier now and then.
func crowd(n int) []rec.Rec {
	var recs []rec.Rec
	for i := range uint64(n) {
		w := put(fmt.Sprint("key", i%7), long(int(i*31%128)))
		if i%5 == 4 {
			recs = append(recs, one(i, "r", w, gone(fmt.Sprint("key", i%3))), mark(i))
		} else {
			recs = append(recs, prepare(i, w), commit(i))
		}
	}
	return recs
}

// keeps calls f with the drive as crashes may leave it: all of them, if the queue is short.
func keeps(d *drive.Drive, f func(keep int, d *drive.Drive)) {
	for i := range 150 {
		keep := 37*i - 1
		left := d.Twin()
		left.Crash(keep)
		f(keep, left)
	}
}

func TestAppendIsCut(t *testing.T) { // P13.2
	recs := []rec.Rec{commit(1), prepare(8, put("b", "8")), one(9, "r", put("c", "9")), mark(3)}
	counts := map[uint64]int{}
	for n := range 2 { // dead by the log's Append, or by its Flush
		s := someState(t)
		s.Locks().Release(txn(5))
		d := s.Log().Drive
		var states []string
		for i := range len(recs) + 1 {
			d := d.Twin()
			d.Crash(0)
			s := opened(t, d, plain)
			append1(t, s, recs[:i]...)
			states = append(states, tell(t, s))
		}
		d.Arm(n)
		_, e := s.Append(recs...)
		answers(t, "Append", e, api.ErrDead)
		keeps(d, func(keep int, d *drive.Drive) {
			s := opened(t, d, plain)
			i := slices.Index(states, tell(t, s))
			if i < 0 {
				t.Fatalf("cut at %d, %d kept: %s", n, keep, tell(t, s))
			}
			counts[s.Next()]++
			append1(t, s, recs[i:]...)
			if got := tell(t, s); got != states[len(recs)] {
				t.Fatalf("cut at %d, %d kept, and gone on: %s", n, keep, got)
			}
		})
	}
	for next := uint64(7); next <= 11; next++ {
		if counts[next] == 0 {
			t.Errorf("no crash left %d records", next)
		}
	}
}

func TestCheckpointIsCut(t *testing.T) { // P13.3
	for n := 0; ; n++ {
		s := with(t, crowd(9)...)
		answers(t, "Checkpoint", s.Checkpoint(), api.OK)
		append1(t, s, prepare(20, put("key1", "1"), gone("key2")), one(21, "", put("new", "2")))
		s.Keep(15)
		ahead := tell(t, s)
		d := s.Log().Drive
		d.Arm(n)
		if e := s.Checkpoint(); e == api.OK {
			if n < 6 {
				t.Errorf("a checkpoint of %d deeds", n)
			}
			return
		} else if e != api.ErrDead {
			t.Fatalf("Checkpoint, cut at %d: %d", n, e)
		}
		keeps(d, func(keep int, d *drive.Drive) {
			s := opened(t, d, plain)
			if got := tell(t, s); got != ahead {
				t.Fatalf("cut at %d, %d kept: %s not %s", n, keep, got, ahead)
			}
			s.Keep(15)
			answers(t, "Checkpoint", s.Checkpoint(), api.OK)
			if got := tell(t, s); got != ahead || s.Log().First() < 10 {
				t.Fatalf("cut at %d, %d kept, once more: %s not %s", n, keep, got, ahead)
			}
		})
	}
}

func TestOpenIsCut(t *testing.T) { // P13.2
	for n := 0; ; n++ {
		s := with(t, crowd(9)...)
		answers(t, "Checkpoint", s.Checkpoint(), api.OK)
		append1(t, s, one(30, "", put("a", long(99)), put("b", long(99)), put("c", long(99)), put("d", long(99)), put("e", long(99)), put("f", long(99))), mark(31))
		ahead := tell(t, s)
		d := s.Log().Drive
		d.Append("s/log.1000", []byte("left over")) // so there is something to be tidied up
		d.Crash(-1)
		d.Arm(n)
		if s, e := store.Open(d, prefix, store.Options{Hand: 1, Most: 100}); e == api.OK {
			d.Arm(-1)
			if tell(t, s) != ahead || n < 3 {
				t.Errorf("an opening of %d deeds: %s", n, tell(t, s))
			}
			return
		} else if e != api.ErrDead || s != nil {
			t.Fatalf("Open, cut at %d: %d", n, e)
		}
		keeps(d, func(keep int, d *drive.Drive) {
			if got := tell(t, opened(t, d, plain)); got != ahead {
				t.Fatalf("cut at %d, %d kept: %s not %s", n, keep, got, ahead)
			}
		})
	}
}

func TestKeep(t *testing.T) { // P13.3
	s := with(t)
	for id := range uint64(20) {
		append1(t, s, mark(id))
	}
	d := s.Log().Drive
	spans := s.Log().Spans()
	if len(spans) < 4 {
		t.Fatalf("only %d segments", len(spans))
	}
	want := func(what string, left int) {
		t.Helper()
		ahead := tell(t, s)
		answers(t, what, s.Checkpoint(), api.OK)
		if got := s.Log().Spans(); !slices.Equal(got, spans[len(spans)-left:]) || tell(t, s) != ahead {
			t.Errorf("%s: segments %v of %v, the store %s", what, got, spans, tell(t, s))
		}
		twin := d.Twin()
		twin.Crash(0)
		again := opened(t, twin, plain)
		if got := again.Log().Spans(); !slices.Equal(got, s.Log().Spans()) || tell(t, again) != ahead {
			t.Errorf("%s: opened again: segments %v, the store %s", what, got, tell(t, again))
		}
	}
	want("never told", len(spans))
	s.Keep(0)
	want("all are kept", len(spans))
	s.Keep(spans[0].To - 1)
	want("the first is kept by its last record", len(spans))
	s.Keep(spans[0].To)
	want("the first goes", len(spans)-1)
	s.Keep(1)
	want("less", len(spans)-1)
	s.Keep(spans[2].To)
	s.Keep(spans[1].To)
	want("told last", len(spans)-2)
	s.Keep(1 << 63)
	want("all go but the last", 1)
	d.Crash(0)
	s = opened(t, d, plain)
	append1(t, s, mark(20))
	append1(t, s, mark(21))
	spans = s.Log().Spans()
	want("never told since it was opened", len(spans))
}

func TestKeepWithoutRecords(t *testing.T) { // P13.3
	s, e := store.Load(drive.New(1<<20), prefix, store.Options{Most: 1}, with(t).Dump(), nil, 0)
	if e != api.OK {
		t.Fatal(e)
	}
	append1(t, s, mark(1))
	spans := s.Log().Spans()
	answers(t, "Checkpoint", s.Checkpoint(), api.OK)
	if got := s.Log().Spans(); !slices.Equal(got, spans) {
		t.Errorf("Keep was told nothing, but segments went: %v of %v", got, spans)
	}
}

func TestFullDrive(t *testing.T) { // P13.5
	for room := 100; room < 9000; room += 97 {
		d := drive.New(room)
		s := opened(t, d, plain)
		done := 0
		for i, r := range crowd(30) {
			ahead := tell(t, s)
			if _, e := s.Append(r); e == api.OK {
				done++
			} else if e != api.ErrFull && e != api.ErrArg || tell(t, s) != ahead {
				t.Fatalf("room %d, record %d: %d, %s", room, i, e, tell(t, s))
			}
			if i%9 == 8 {
				ahead := tell(t, s)
				s.Keep(s.Next())
				if e := s.Checkpoint(); e != api.OK && e != api.ErrFull || tell(t, s) != ahead {
					t.Fatalf("room %d, record %d: Checkpoint: %d, %s", room, i, e, tell(t, s))
				}
			}
			if i%7 == 6 {
				ahead := tell(t, s)
				d.Crash(i)
				s = opened(t, d, plain)
				if tell(t, s) != ahead {
					t.Fatalf("room %d, record %d: opened again: %s", room, i, tell(t, s))
				}
			}
		}
		if done == 0 && room > 200 {
			t.Errorf("room %d: no record had room", room)
		}
	}
}

// litter has something lie on a store's drive that isn't so.
func litter() map[string]func(s *store.Store, d *drive.Drive) {
	save := func(d *drive.Drive, note []byte) {
		p, _, _ := pages.Open(d, "s/tree/", 1)
		p.Save(note)
	}
	noteOf := func(root, next uint64, dump []byte) []byte {
		var w pack.Writer
		w.Num(root, next)
		w.Text(dump)
		return w.Bytes()
	}
	relog := func(d *drive.Drive, at uint64, records ...[]byte) {
		for _, name := range d.List("s/log.") {
			d.Remove(name)
		}
		l, _ := journal.Begin(d, "s/log.", 100, at)
		l.Append(records...)
	}
	return map[string]func(s *store.Store, d *drive.Drive){
		"no record in the log":           func(s *store.Store, d *drive.Drive) { s.Log().Append([]byte("junk")) },
		"a record of another log":        func(s *store.Store, d *drive.Drive) { s.Log().Append(rec.Rec{Kind: rec.Cut}.Bytes()) },
		"a record that can't be done":    func(s *store.Store, d *drive.Drive) { s.Log().Append(commit(77).Bytes()) },
		"a write that doesn't fit":       func(s *store.Store, d *drive.Drive) { s.Log().Append(one(77, "", put(long(65), "")).Bytes()) },
		"a log that ends too early":      func(s *store.Store, d *drive.Drive) { relog(d, 0, mark(1).Bytes()) },
		"a log that begins too late":     func(s *store.Store, d *drive.Drive) { relog(d, s.Next()+1) },
		"a pool that isn't one":          func(s *store.Store, d *drive.Drive) { d.Write("s/tree/index", 0, []byte{1, 2, 3}) },
		"a pool without a note":          func(s *store.Store, d *drive.Drive) { save(d, nil) },
		"a note without a tree":          func(s *store.Store, d *drive.Drive) { save(d, noteOf(999, s.Next(), s.Dump())) },
		"a root above all numbers":       func(s *store.Store, d *drive.Drive) { save(d, noteOf(1<<63, s.Next(), s.Dump())) },
		"a note with more":               func(s *store.Store, d *drive.Drive) { save(d, append(noteOf(0, s.Next(), s.Dump()), 0)) },
		"a note that ends":               func(s *store.Store, d *drive.Drive) { save(d, noteOf(0, s.Next(), s.Dump())[:5]) },
		"a note of what nobody can know": func(s *store.Store, d *drive.Drive) { save(d, noteOf(0, s.Next(), []byte{1})) },
		"a root that is no node": func(s *store.Store, d *drive.Drive) {
			p, note, _ := pages.Open(d, "s/tree/", 1)
			p.Put(s.Root(), make([]byte, api.PageSize))
			p.Save(note)
		},
	}
}

func TestWhatIsntSo(t *testing.T) { // P13.2
	for what, spoil := range litter() {
		s := with(t, crowd(9)...)
		answers(t, "Checkpoint", s.Checkpoint(), api.OK)
		append1(t, s, mark(99))
		d := s.Log().Drive
		spoil(s, d)
		for range 2 {
			d.Crash(-1)
			if s, e := store.Open(d, prefix, plain); e != api.ErrForm || s != nil {
				t.Errorf("%s: Open: %v, %d", what, s, e)
			}
		}
	}
}

func TestSpoiltFiles(t *testing.T) { // P13.2: whatever a file is, nothing panics
	s := with(t, crowd(9)...)
	answers(t, "Checkpoint", s.Checkpoint(), api.OK)
	append1(t, s, mark(99), prepare(98, put("a", "b")))
	d := s.Log().Drive
	junk, _ := parity.Seal([]byte("junk"))
	for _, name := range d.List("") {
		for _, b := range [][]byte{nil, []byte("junk"), junk, parity.Wrap([]byte("junk")), parity.Wrap(nil)} {
			d := d.Twin()
			d.Remove(name)
			d.Append(name, b)
			d.Crash(-1)
			if s, e := store.Open(d, prefix, plain); e == api.OK {
				tell(t, s)
			} else if e != api.ErrForm {
				t.Errorf("%s is %q: Open: %d", name, b, e)
			}
		}
	}
}

func TestLocksWereTakenFromThePrepared(t *testing.T) { // P13.2: what was appended is there, whoever turned the table
	s := with(t, prepare(1, put("a", "1")))
	s.Locks().Release(txn(1))
	append1(t, s, prepare(2, put("a", "2")))
	d := s.Log().Drive
	for range 2 {
		d.Crash(0)
		s = opened(t, d, plain)
		if got := fmt.Sprint(s.Prepared()); got != fmt.Sprint([]api.Txn{txn(1), txn(2)}) || s.Locks().Ask(txn(3), own(gone("a"))...) != api.ErrLocked {
			t.Errorf("Prepared = %s", got)
		}
		answers(t, "Checkpoint", s.Checkpoint(), api.OK)
	}
}

// files tells what lies on a drive.
func files(d *drive.Drive) string {
	out := ""
	for _, name := range d.List("") {
		b, _ := d.Read(name)
		out += fmt.Sprintf("%q: %x\n", name, b)
	}
	return out
}
