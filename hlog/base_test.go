package hlog_test

import (
	"fmt"
	"math"
	"slices"
	"strings"
	"testing"

	"groyne/api"
	"groyne/drive"
	"groyne/hlog"
	"groyne/rec"
	"groyne/vault"
)

func shelf() vault.Shelf { return vault.Shelf{Vault: vault.New(), Prefix: "h/"} }

// saves takes a backup, and notes up to where it goes; of a number that is there it is refused.
func saves(t *testing.T, l *hlog.Log, v vault.Shelf, id uint64, at map[uint64]uint64) {
	t.Helper()
	e := l.Save(v, id)
	old, there := at[id]
	switch {
	case there && old != l.Next():
		answers(t, "P18.3: Save", e, api.ErrThere)
	default:
		answers(t, "P18.3: Save", e, api.OK)
		at[id] = l.Next()
	}
	var want []hlog.Base
	for id, at := range at {
		want = append(want, hlog.Base{Id: id, At: at})
	}
	slices.SortFunc(want, func(a, b hlog.Base) int { return int(a.Id) - int(b.Id) })
	if got := hlog.Bases(v); !slices.Equal(got, want) {
		t.Fatalf("P18.3: Bases = %v, want %v", got, want)
	}
}

func texts(recs []rec.Rec) [][]byte {
	var list [][]byte
	for _, r := range recs {
		list = append(list, r.Bytes())
	}
	return list
}

// restores looks whether each backup makes the log at a few later indexes.
func restores(t *testing.T, v vault.Shelf, at map[uint64]uint64, recs []rec.Rec) {
	t.Helper()
	for id, from := range at {
		if from > uint64(len(recs)) {
			t.Fatalf("P18.3: backup %d goes up to %d", id, from)
		}
		for _, to := range []uint64{from, (from + uint64(len(recs))) / 2, uint64(len(recs))} {
			d := drive.New(1 << 22)
			l, e := hlog.Restore(d, prefix, int(id)*20, v, hlog.Base{Id: id, At: from}, texts(recs[from:to])...)
			if e != api.OK || d.Queue() != 0 {
				t.Fatalf("P18.3: Restore: %d", e)
			}
			is(t, "P18.3", l, recs[:to])
			d.Crash(0)
			is(t, "P18.3: behind a crash", opened(t, d, 100), recs[:to])
		}
	}
}

func TestRestore(t *testing.T) { // P18.3
	v, at := shelf(), map[uint64]uint64{}
	_, l := with(t)
	for i, r := range story() {
		saves(t, l, v, uint64(20-i), at)
		appends(t, l, uint64(i), r)
	}
	saves(t, l, v, math.MaxUint64>>1, at)
	for id, from := range at {
		for to := from; to <= 11; to++ {
			d := drive.New(1 << 22)
			d.Append("node", []byte("else"))
			l, e := hlog.Restore(d, prefix, 100, v, hlog.Base{Id: id, At: from}, texts(story()[from:to])...)
			if e != api.OK {
				t.Fatalf("P18.3: backup %d, up to %d: %d", from, to, e)
			}
			is(t, "P18.3", l, story()[:to])
			own, e := l.Log().Records(from, to)
			if fmt.Sprint(own) != fmt.Sprint(texts(story()[from:to])) || e != api.OK || l.Log().First() != from || l.Log().Next() != to {
				t.Errorf("P18.3: backup %d, up to %d: the log goes from %d to %d", from, to, l.Log().First(), l.Log().Next())
			}
			appends(t, l, to, story()[to:]...)
			is(t, "P18.3: gone on", l, story())
			d.Crash(0)
			again := opened(t, d, 100)
			is(t, "P18.3: behind a crash", again, story())
			if e := again.Save(v, id); e != api.ErrThere && from != 11 {
				t.Errorf("P18.3: Save: %d", e)
			}
		}
	}
}

func TestSave(t *testing.T) { // P18.3
	v := shelf()
	_, l := with(t, story()[:4]...)
	answers(t, "Save", l.Save(v, 7), api.OK)
	if names := v.List(""); len(names) != 1 || !strings.HasPrefix(names[0], "h/") {
		t.Errorf("P18.3: the vault has %q", names)
	}
	ahead := things(v)
	answers(t, "the same once more", l.Save(v, 7), api.OK)
	_, twin := with(t, story()[:4]...)
	answers(t, "the same of another log", twin.Save(v, 7), api.OK)
	appends(t, l, 4, story()[4])
	answers(t, "another one", l.Save(v, 7), api.ErrThere)
	_, other := with(t, story()[1], story()[0], story()[2], story()[3])
	answers(t, "another one of as many records", other.Save(v, 7), api.ErrThere)
	if things(v) != ahead {
		t.Error("P18.3: the vault has changed")
	}
	for _, id := range []uint64{0, 8, math.MaxUint64} {
		answers(t, "Save", l.Save(v, id), api.OK)
	}
	if got := fmt.Sprint(hlog.Bases(v)); got != "[{0 5} {7 4} {8 5} {18446744073709551615 5}]" {
		t.Errorf("P18.3: Bases = %s", got)
	}
	if got := hlog.Bases(shelf()); len(got) != 0 {
		t.Errorf("P18.3: an empty vault has %v", got)
	}
	if got := hlog.Bases(v.Sub("x/")); len(got) != 0 {
		t.Errorf("P18.3: another shelf has %v", got)
	}
}

func TestWhatIsSavedIsSafe(t *testing.T) { // P18.3: of what a dying drive may lose nothing is saved
	for deeds := range 2 {
		d, l := with(t, story()[:5]...)
		d.Arm(deeds)
		l.Append(story()[5:]...)
		v := shelf()
		if e := l.Save(v, 1); e == api.OK && fmt.Sprint(hlog.Bases(v)) != "[{1 5}]" {
			t.Errorf("P18.3: Bases = %v", hlog.Bases(v))
		}
		restores(t, v, map[uint64]uint64{1: 5}, story())
	}
}

func TestWhatWasLost(t *testing.T) { // P18.3
	_, l := with(t, story()...)
	v := shelf()
	l.Save(v, 1)
	l.Save(v, 2)
	name := v.List("")[0]
	good, _ := v.Get(name)
	for at := range good {
		b := slices.Clone(good)
		b[at] ^= 1 << (at % 8)
		v.Lose(name)
		v.Put(name, b)
		if got := fmt.Sprint(hlog.Bases(v)); got != "[{2 11}]" {
			t.Fatalf("P18.3: byte %d is spoilt, Bases = %s", at, got)
		}
		refusesBase(t, v, hlog.Base{Id: 1, At: 11})
	}
	for n := range good {
		v.Lose(name)
		v.Put(name, good[:n])
		if got := fmt.Sprint(hlog.Bases(v)); got != "[{2 11}]" {
			t.Fatalf("P18.3: cut at %d, Bases = %s", n, got)
		}
	}
	v.Lose(name)
	refusesBase(t, v, hlog.Base{Id: 1, At: 11})
	refusesBase(t, v, hlog.Base{Id: 3, At: 11})
	refusesBase(t, v, hlog.Base{Id: 2, At: 10})
	v.Put(v.Path("known.2"), good) // no Number
	v.Put(v.Path("known."), good)
	if got := fmt.Sprint(hlog.Bases(v)); got != "[{2 11}]" {
		t.Errorf("P18.3: Bases = %s", got)
	}
	answers(t, "Save", l.Save(v, 1), api.OK)
	answers(t, "Save", l.Save(v, 0), api.OK)
	if got := fmt.Sprint(hlog.Bases(v)); got != "[{0 11} {1 11} {2 11}]" {
		t.Errorf("P18.3: Bases = %s", got)
	}
}

func refusesBase(t *testing.T, v vault.Shelf, b hlog.Base, records ...[]byte) {
	t.Helper()
	d := drive.New(1 << 22)
	if l, e := hlog.Restore(d, prefix, 100, v, b, records...); e != api.ErrNotArchived || l != nil || len(d.List("")) > 0 {
		t.Errorf("P18.3: Restore(%v): %d", b, e)
	}
}

func TestRestoreIsRefused(t *testing.T) { // P18.3
	v := shelf()
	_, l := with(t, story()...)
	l.Save(v, 1)
	base := hlog.Base{Id: 1, At: 11}
	mark := rec.Rec{Kind: rec.Mark, Id: 1}.Bytes()
	long := decide(1, true, strings.Repeat("r", api.MaxRecord)).Bytes()
	for what, c := range map[string]struct {
		b       hlog.Base
		records [][]byte
		lies    string
		want    api.Errno
	}{
		"a record that is none":          {base, [][]byte{[]byte("junk")}, "", api.ErrForm},
		"an empty one":                   {base, [][]byte{cut(1).Bytes(), nil}, "", api.ErrForm},
		"one of another log":             {base, [][]byte{mark}, "", api.ErrForm},
		"one that can't be done":         {base, texts(story()), "", api.ErrForm},
		"the last can't":                 {base, texts([]rec.Rec{end(8), end(8)}), "", api.ErrForm},
		"one that is too long":           {base, [][]byte{long}, "", api.ErrForm},
		"something lies there":           {base, nil, "h/x", api.ErrThere},
		"something of just this name":    {base, nil, "h/", api.ErrThere},
		"what a cut restore left":        {base, nil, "h/base~", api.ErrThere},
		"no backup, and a record":        {hlog.Base{Id: 2}, [][]byte{mark}, "h/x", api.ErrNotArchived},
		"a record, and what lies there":  {base, [][]byte{mark}, "h/x", api.ErrForm},
		"nothing of these":               {base, nil, "H/x", api.OK},
		"nothing of these, by a record":  {base, [][]byte{cut(1).Bytes()}, "g", api.OK},
		"nothing of these, beside a log": {base, nil, "log.1", api.OK},
	} {
		d := drive.New(1 << 22)
		if c.lies != "" {
			d.Append(c.lies, []byte("b"))
		}
		ahead := files(d)
		l, e := hlog.Restore(d, prefix, 100, v, c.b, c.records...)
		if e != c.want || (l == nil) != (e != api.OK) || e != api.OK && files(d) != ahead {
			t.Errorf("P18.3: %s: %d, want %d", what, e, c.want)
		}
	}
	d := drive.New(1 << 22)
	d.Arm(0)
	d.Flush()
	if l, e := hlog.Restore(d, prefix, 100, v, base); e != api.ErrDead || l != nil {
		t.Errorf("P18.3: a dead drive: %d", e)
	}
}

func TestRestoreWithoutRoom(t *testing.T) { // P18.3
	v := shelf()
	_, l := with(t, story()[:6]...)
	l.Save(v, 1)
	base, records := hlog.Base{Id: 1, At: 6}, texts(story()[6:])
	fits := 0
	for room := 0; room < 1500; room += 7 {
		d := drive.New(room)
		d.Append("node", []byte("b"))
		l, e := hlog.Restore(d, prefix, 100, v, base, records...)
		if e == api.OK {
			fits++
			is(t, "P18.3", l, story())
			continue
		}
		if e != api.ErrFull || l != nil || len(d.List(prefix)) > 0 || fits > 0 {
			t.Fatalf("P18.3: room %d: %d, %q", room, e, d.List(""))
		}
	}
	if fits == 0 {
		t.Error("P18.3: there was never room")
	}
}

func TestRestoreIsCut(t *testing.T) { // P18.3: safely and whole, or not at all
	v := shelf()
	_, l := with(t)
	l.Save(v, 0)
	appends(t, l, 0, story()[:6]...)
	l.Save(v, 6)
	for _, from := range []uint64{0, 6} {
		counts := map[uint64]int{}
		for deeds := 0; ; deeds++ {
			d := drive.New(1 << 22)
			d.Arm(deeds)
			l, e := hlog.Restore(d, prefix, 100, v, hlog.Base{Id: from, At: from}, texts(story()[from:])...)
			if e == api.OK {
				break
			} else if e != api.ErrDead || l != nil {
				t.Fatalf("P18.3: cut at %d: %d", deeds, e)
			}
			for keep := range 250 {
				d := d.Twin()
				d.Crash(keep * 7)
				l := opened(t, d, 100)
				counts[l.Next()]++
				if l.Next() != 0 && l.Next() != 11 {
					t.Fatalf("P18.3: cut at %d, %d kept: %d records", deeds, keep*7, l.Next())
				}
				recs := story()[:l.Next()]
				is(t, "P18.3", l, recs)
				for id := range uint64(15) {
					recs = append(recs, cut(50+id))
				}
				appends(t, l, l.Next(), recs[l.Next():]...)
				d.Crash(0)
				is(t, "P18.3: gone on", opened(t, d, 100), recs)
			}
		}
		if counts[0] == 0 || counts[11] == 0 {
			t.Errorf("P18.3: %v", counts)
		}
	}
}

func things(v vault.Shelf) string {
	out := ""
	for _, name := range v.List("") {
		b, _ := v.Get(name)
		out += fmt.Sprintf("%q: %x\n", name, b)
	}
	return out
}
