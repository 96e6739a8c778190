package hlog_test

import (
	"math/rand"
	"slices"
	"testing"

	"groyne/api"
	"groyne/drive"
	"groyne/hlog"
	"groyne/journal"
	"groyne/rec"
	"groyne/vault"
)

func TestOpenAgain(t *testing.T) { // P18.2
	for _, most := range []int{-1, 0, 50, 200, 1 << 20} {
		d := drive.New(1 << 22)
		for i, r := range story() {
			l := opened(t, d, most)
			is(t, "P18.2", l, story()[:i])
			appends(t, l, uint64(i), r)
			d.Crash(i)
		}
		is(t, "P18.2", opened(t, d, most), story())
	}
}

func TestOpenWritesNothing(t *testing.T) { // P18.2: an empty log needs no room
	d := drive.New(0)
	is(t, "P18.2", opened(t, d, 100), nil)
	if len(d.List("")) > 0 {
		t.Errorf("P18.2: %q", d.List(""))
	}
}

func TestPrefixes(t *testing.T) { // P18.2
	d := drive.New(1 << 20)
	d.Append("node", []byte("else"))
	a, _ := hlog.Open(d, "a/", 100)
	b, _ := hlog.Open(d, "b/", 100)
	appends(t, a, 0, decide(1, true, ""))
	appends(t, b, 0, cut(1), done(1))
	a, _ = hlog.Open(d, "a/", 100)
	b, _ = hlog.Open(d, "b/", 100)
	is(t, "P18.2", a, []rec.Rec{decide(1, true, "")})
	is(t, "P18.2", b, []rec.Rec{cut(1), done(1)})
	if got, _ := d.Read("node"); string(got) != "else" || len(d.List("a/"))+len(d.List("b/"))+1 != len(d.List("")) {
		t.Errorf("P18.2: the drive has %q", d.List(""))
	}
}

func TestAppendIsCut(t *testing.T) { // P18.2
	counts := map[uint64]int{}
	for deeds := range 2 {
		d, l := with(t, story()[:5]...)
		d.Arm(deeds)
		if at, e := l.Append(story()[5:]...); at != 0 || e != api.ErrDead {
			t.Fatalf("P18.2: Append: %d, %d", at, e)
		}
		for keep := range 200 {
			d := d.Twin()
			d.Crash(3 * keep)
			l := opened(t, d, 100)
			if l.Next() < 5 || l.Next() > 11 {
				t.Fatalf("P18.2: %d records", l.Next())
			}
			counts[l.Next()]++
			is(t, "P18.2", l, story()[:l.Next()])
			appends(t, l, l.Next(), story()[l.Next():]...)
			is(t, "P18.2", l, story())
		}
	}
	for next := uint64(5); next <= 11; next++ {
		if counts[next] == 0 {
			t.Errorf("P18.2: no crash left %d records", next)
		}
	}
}

func TestOpenIsCut(t *testing.T) { // P18.2
	for deeds := 0; ; deeds++ {
		d, _ := with(t, story()...)
		d.Append("h/log.1000", []byte("left over")) // so there is something to be tidied up
		d.Crash(-1)
		d.Arm(deeds)
		if l, e := hlog.Open(d, prefix, 100); e == api.OK {
			is(t, "P18.2", l, story())
			return
		} else if e != api.ErrDead || l != nil {
			t.Fatalf("P18.2: cut at %d: %d", deeds, e)
		}
		for keep := range 10 {
			d := d.Twin()
			d.Crash(keep)
			is(t, "P18.2", opened(t, d, 100), story())
		}
	}
}

func TestWhatIsntSo(t *testing.T) { // P18.2
	for what, lay := range map[string]func(l *journal.Log, d *drive.Drive){
		"no record":                     func(l *journal.Log, d *drive.Drive) { l.Append([]byte("junk")) },
		"a record of another log":       func(l *journal.Log, d *drive.Drive) { l.Append(rec.Rec{Kind: rec.Mark}.Bytes()) },
		"a record that can't be done":   func(l *journal.Log, d *drive.Drive) { l.Append(end(1).Bytes()) },
		"one behind many that can":      func(l *journal.Log, d *drive.Drive) { l.Append(end(8).Bytes(), end(8).Bytes()) },
		"a log that begins too late":    func(l *journal.Log, d *drive.Drive) { d.Remove("h/log.1") },
		"a start that isn't in form":    func(l *journal.Log, d *drive.Drive) { d.Append("h/base", []byte("junk")) },
		"a start without a word":        func(l *journal.Log, d *drive.Drive) { d.Append("h/base", nil) },
		"a log that doesn't join on it": func(l *journal.Log, d *drive.Drive) { start(d, append(story(), decide(1, true, ""))) },
	} {
		d, l := with(t, story()...)
		lay(l.Log(), d)
		for range 2 {
			d.Crash(-1)
			if l, e := hlog.Open(d, prefix, 100); e != api.ErrForm || l != nil {
				t.Errorf("P18.2: %s: %d", what, e)
			}
		}
	}
	d, _ := with(t)
	d.Arm(0)
	d.Flush()
	if l, e := hlog.Open(d, prefix, 100); e != api.ErrDead || l != nil {
		t.Errorf("P18.2: a dead drive: %d", e)
	}
}

// start has a file on the drive as a restored log has it, of which these records are known.
func start(d *drive.Drive, known []rec.Rec) {
	l, _ := hlog.Open(drive.New(1<<22), prefix, 100)
	l.Append(known...)
	v := vault.Shelf{Vault: vault.New()}
	l.Save(v, 1)
	from := drive.New(1 << 22)
	hlog.Restore(from, prefix, 100, v, hlog.Bases(v)[0])
	b, _ := from.Read("h/base")
	drive.Replace(d, "h/base", b)
}

// chance is a record by chance, which often can't be done.
func chance(rnd *rand.Rand) rec.Rec {
	n := uint64(rnd.Intn(30))
	switch rnd.Intn(9) {
	case 0, 1, 2:
		return decide(n, rnd.Intn(2) == 0, "reply"[:rnd.Intn(6)], rnd.Perm(4)[:rnd.Intn(4)]...)
	case 3, 4:
		return end(n)
	case 5:
		return cut(n)
	case 6:
		return done(n)
	}
	return rec.Rec{Kind: rnd.Intn(12) - 1, Txn: txn(n), Id: n, Name: "n"}
}

// can tells plainly whether a record can be done behind others.
func can(recs []rec.Rec, r rec.Rec) bool {
	has := func(kind int) bool {
		return slices.ContainsFunc(recs, func(o rec.Rec) bool {
			return o.Kind == kind && (kind == rec.Decide || kind == rec.End) && o.Txn == r.Txn || o.Kind == kind && (kind == rec.Cut || kind == rec.Done) && o.Id == r.Id
		})
	}
	switch r.Kind {
	case rec.Decide:
		return !has(rec.Decide)
	case rec.End:
		return has(rec.Decide) && !has(rec.End)
	case rec.Cut:
		return !has(rec.Cut)
	case rec.Done:
		return has(rec.Cut) && !has(rec.Done)
	}
	return false
}

func TestScripts(t *testing.T) { // P18.1, P18.2, P18.3
	done, crashes := 0, 0
	for seed := range int64(120) {
		rnd := rand.New(rand.NewSource(seed))
		d, v := drive.New(1<<22), vault.Shelf{Vault: vault.New(), Prefix: "h/"}
		l := opened(t, d, 100)
		var recs []rec.Rec
		at := map[uint64]uint64{}
		for range 60 {
			batch := []rec.Rec{chance(rnd)}
			for rnd.Intn(2) == 0 {
				batch = append(batch, chance(rnd))
			}
			fit, behind := true, slices.Clone(recs)
			for _, r := range batch {
				fit = fit && can(behind, r)
				behind = append(behind, r)
			}
			d.Arm(rnd.Intn(20))
			from, e := l.Append(batch...)
			switch {
			case e == api.ErrDead:
				crashes++
				d.Crash(rnd.Intn(1000))
				l = opened(t, d, rnd.Intn(300))
				if l.Next() < uint64(len(recs)) || l.Next() > uint64(len(behind)) {
					t.Fatalf("P18.2: next %d", l.Next())
				}
				recs = behind[:l.Next()]
			case fit && e == api.OK && from == uint64(len(recs)):
				done++
				recs = behind
			case fit || e != api.ErrArg || from != 0:
				t.Fatalf("P18.1: Append(%+v) = %d, %d", batch, from, e)
			}
			is(t, "P18.1", l, recs)
			if id := uint64(rnd.Intn(300)); id < 30 {
				saves(t, l, v, id, at)
			}
		}
		restores(t, v, at, recs)
	}
	if done < 100 || crashes < 100 {
		t.Errorf("only %d were done, with %d crashes", done, crashes)
	}
}
