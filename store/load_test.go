package store_test

import (
	"bytes"
	"fmt"
	"math"
	"math/rand"
	"slices"
	"testing"

	"groyne/api"
	"groyne/drive"
	"groyne/pack"
	"groyne/rec"
	"groyne/store"
)

// has is what the store's tree has.
func has(t *testing.T, s *store.Store) []api.Pair {
	t.Helper()
	pairs, e := s.Scan(nil, nil, 0)
	if e != api.OK {
		t.Fatal(e)
	}
	return pairs
}

func loaded(t *testing.T, d *drive.Drive, o store.Options, dump []byte, pairs []api.Pair, next uint64) *store.Store {
	t.Helper()
	s, e := store.Load(d, prefix, o, dump, pairs, next)
	if e != api.OK || s == nil {
		t.Fatalf("Load: %d", e)
	}
	return s
}

func TestLoad(t *testing.T) { // P13.4
	s := someState(t)
	s.Locks().Release(txn(5))
	want := tell(t, s)
	d := drive.New(1 << 20)
	l := loaded(t, d, plain, s.Dump(), has(t, s), s.Next())
	for _, what := range []string{"loaded", "opened again", "and again"} {
		if got := tell(t, l); got != want || !bytes.Equal(l.Dump(), s.Dump()) {
			t.Errorf("%s: the store is\n%s not\n%s", what, got, want)
		}
		if l.Log().First() != 7 || l.Log().Next() != 7 {
			t.Errorf("%s: the log goes from %d to %d", what, l.Log().First(), l.Log().Next())
		}
		d.Crash(0)
		l = opened(t, d, plain)
	}
	for _, s := range []*store.Store{s, l} {
		if at := append1(t, s, commit(1), prepare(8, put("a", "8")), mark(8)); at != 7 {
			t.Errorf("Append = %d", at)
		}
	}
	d.Crash(0)
	if got, want := tell(t, opened(t, d, plain)), tell(t, s); got != want {
		t.Errorf("gone on, the store is\n%s not\n%s", got, want)
	}
}

func TestLoadElsewhere(t *testing.T) { // P13.4: the next index is what Load says
	s := someState(t)
	for _, next := range []uint64{0, 1, 7, 9, 1 << 40} {
		d := drive.New(1 << 20)
		d.Append("node", []byte("else"))
		l := loaded(t, d, store.Options{}, s.Dump(), nil, next)
		for range 2 {
			if l.Next() != next || l.Log().First() != next || len(has(t, l)) != 0 || !bytes.Equal(l.Dump(), s.Dump()) {
				t.Errorf("from %d on: next %d, first %d, %v", next, l.Next(), l.Log().First(), has(t, l))
			}
			d.Crash(0)
			l = opened(t, d, plain)
		}
		if at := append1(t, l, mark(9)); at != next {
			t.Errorf("from %d on: Append = %d", next, at)
		}
		d.Crash(0)
		l = opened(t, d, plain)
		if at, stands := l.Marked(9); at != next || !stands || l.Next() != next+1 {
			t.Errorf("from %d on: Marked = %d, %v", next, at, stands)
		}
		if b, _ := d.Read("node"); string(b) != "else" {
			t.Errorf("another file is %q", b)
		}
	}
}

func TestLoadPairs(t *testing.T) { // P13.4: in whatever order
	pair := func(key, value string) api.Pair { return api.Pair{Key: []byte(key), Value: []byte(value)} }
	s := loaded(t, drive.New(1<<20), store.Options{Hand: -1, Most: -1}, with(t).Dump(), []api.Pair{pair("b", "2"), pair("", "0"), pair(long(64), long(128)), pair("a", "1")}, 5)
	if got := fmt.Sprintf("%.3q", has(t, s)); got != `[{"" "0"} {"a" "1"} {"b" "2"} {"xxx" "xxx"}]` {
		t.Errorf("the pairs are %s", got)
	}
}

func TestDump(t *testing.T) { // P13.4
	if b := with(t).Dump(); len(b) < 2 || !bytes.Equal(b, opened(t, drive.New(0), store.Options{Hand: 9, Most: 9999}).Dump()) {
		t.Errorf("an empty store's is %v", b)
	}
	// The same is known, by other ways.
	a := with(t, one(1, "r", put("a", "1")), mark(7), mark(9), prepare(2, put("b", "2")), prepare(3), prepare(4), abort(4))
	b := opened(t, drive.New(1<<20), store.Options{Hand: 50, Most: 1})
	noise := prepare(2, put("b", "2"))
	noise.Reply, noise.Name, noise.Id = []byte("not used"), "neither", 8
	append1(t, b, one(1, "r", put("x", "1"), put("y", "1")), mark(7), mark(9), noise, prepare(3), prepare(4), abort(4))
	b.Locks().Ask(txn(5), own(gone("e"))...)
	answers(t, "Checkpoint", b.Checkpoint(), api.OK)
	if !bytes.Equal(a.Dump(), b.Dump()) {
		t.Error("stores that know the same have other dumps")
	}
	has := map[string]string{string(a.Dump()): "the store"}
	for what, recs := range map[string][]rec.Rec{
		"a commit":         {commit(2)},
		"one given up":     {abort(2)},
		"one more":         {prepare(9)},
		"a One":            {one(9, "")},
		"a One's reply":    {one(9, "r")},
		"a barrier":        {mark(1)},
		"another":          {mark(2)},
		"what it writes":   {prepare(9, put("z", ""))},
		"what it locks":    {ranged(9, span("z", "", false))},
		"an index":         {mark(1), mark(2)},
		"an index further": {mark(2), mark(1)},
	} {
		s, e := store.Load(drive.New(1<<20), prefix, plain, a.Dump(), nil, a.Next())
		if e != api.OK {
			t.Fatal(e)
		}
		append1(t, s, recs...)
		if other, again := has[string(s.Dump())]; again {
			t.Errorf("with %s the dump is that with %s", what, other)
		}
		has[string(s.Dump())] = what
	}
}

func TestLoadIsRefused(t *testing.T) { // P13.4
	good := someState(t).Dump()
	fits := api.Pair{Key: []byte(long(64)), Value: []byte(long(128))}
	longKey, longValue := api.Pair{Key: []byte(long(65))}, api.Pair{Value: []byte(long(129))}
	for what, c := range map[string]struct {
		dump  []byte
		pairs []api.Pair
		lies  string
		want  api.Errno
	}{
		"a key too long":              {good, []api.Pair{fits, longKey}, "", api.ErrSize},
		"a value too long":            {good, []api.Pair{longValue, fits}, "", api.ErrSize},
		"no dump":                     {nil, []api.Pair{fits}, "", api.ErrForm},
		"one byte":                    {[]byte{0}, nil, "", api.ErrForm},
		"something lies there":        {good, []api.Pair{fits}, "s/x", api.ErrThere},
		"something of just this name": {good, nil, "s/", api.ErrThere},
		"of a size and a form":        {nil, []api.Pair{longKey}, "", api.ErrSize},
		"of a size and what is there": {good, []api.Pair{longKey}, "s/log.1", api.ErrSize},
		"of a form and what is there": {[]byte{3}, nil, "s/tree/index", api.ErrForm},
	} {
		d := drive.New(1 << 20)
		if c.lies != "" {
			d.Append(c.lies, nil)
		}
		ahead := files(d)
		if s, e := store.Load(d, prefix, plain, c.dump, c.pairs, 3); s != nil || e != c.want {
			t.Errorf("%s: Load: %v, %d, want %d", what, s, e, c.want)
		}
		if files(d) != ahead {
			t.Errorf("%s: something has changed: %s", what, files(d))
		}
	}
	d := drive.New(1 << 20)
	d.Arm(0)
	d.Flush()
	if s, e := store.Load(d, prefix, plain, good, nil, 3); s != nil || e != api.ErrDead {
		t.Errorf("a dead drive: Load: %v, %d", s, e)
	}
}

// known is a dump that is put by hand: a transaction with the kind, the index and the text of its last record, and no barriers.
func known(kind, at uint64, text []byte) []byte {
	var w pack.Writer
	w.Num(1, 1, 1, 6, kind, at)
	w.Text(text)
	w.Num(0)
	return w.Bytes()
}

func TestNoDumps(t *testing.T) { // P13.4
	two := with(t, prepare(6, put("a", "1")), prepare(7)).Dump()
	split := func(recs ...rec.Rec) []byte { return with(t, recs...).Dump() }
	sound := known(rec.Prepare, 0, prepare(6, put("a", "1")).Bytes())
	if !bytes.Equal(sound, split(prepare(6, put("a", "1")))) {
		t.Fatal("the dump isn't as the test has it")
	}
	list := map[string][]byte{
		"more behind":            append(slices.Clone(two), 0),
		"no such kind":           known(rec.Mark, 0, nil),
		"a kind below":           known(math.MaxUint64, 0, nil),
		"a text of a Commit":     known(rec.Commit, 0, []byte{1}),
		"a text of an Abort":     known(rec.Abort, 0, []byte{1}),
		"no record":              known(rec.Prepare, 0, nil),
		"another's record":       known(rec.Prepare, 0, prepare(7).Bytes()),
		"a record of no branch":  known(rec.Prepare, 0, one(6, "").Bytes()),
		"a write too long":       known(rec.Prepare, 0, prepare(6, put("a", long(129))).Bytes()),
		"a range out of form":    known(rec.Prepare, 0, ranged(6, span("b", "a", false)).Bytes()),
		"barriers that fall":     {0, 2, 9, 1, 8, 2},
		"a barrier twice":        {0, 2, 8, 1, 8, 2},
		"many barriers":          append([]byte{0}, pack.Number(math.MaxUint64)...),
		"many transactions":      pack.Number(math.MaxUint64),
		"a transaction twice":    append(append([]byte{2}, known(rec.Commit, 0, nil)[1:7]...), known(rec.Commit, 0, nil)[1:]...),
		"transactions that fall": append(append([]byte{2}, known(rec.Commit, 0, nil)[1:7]...), []byte{1, 1, 5, 2, 0, 0, 0}...),
	}
	for n := range two {
		list[fmt.Sprint("cut at ", n)] = two[:n]
	}
	for what, dump := range list {
		d := drive.New(1 << 20)
		if s, e := store.Load(d, prefix, plain, dump, nil, 9); s != nil || e != api.ErrForm || d.Used() > 0 {
			t.Errorf("%s: Load: %v, %d", what, s, e)
		}
	}
}

func TestSpoiltDumps(t *testing.T) { // P13.4: what is a dump at all is that of the store that comes out
	rnd := rand.New(rand.NewSource(1))
	dump := with(t, crowd(6)...).Dump()
	whole := 0
	for range 3000 {
		b := slices.Clone(dump)
		for range 1 + rnd.Intn(3) {
			b[rnd.Intn(len(b))] = byte(rnd.Intn(256))
		}
		s, e := store.Load(drive.New(1<<20), prefix, plain, b, nil, 99)
		if e == api.OK && bytes.Equal(s.Dump(), b) {
			whole++
		} else if e != api.ErrForm {
			t.Fatalf("%v: %d", b, e)
		}
	}
	if whole == 0 {
		t.Error("no dump was another store's")
	}
}

func TestLoadIsCut(t *testing.T) { // P13.4: safely and whole, or not at all
	s := with(t, append(crowd(9), prepare(10, put("a", "1")))...)
	dump, pairs, next := s.Dump(), has(t, s), s.Next()
	whole, none := tell(t, s), tell(t, with(t))
	counts := map[string]int{}
	for n := 0; ; n++ {
		d := drive.New(1 << 20)
		d.Arm(n)
		if l, e := store.Load(d, prefix, plain, dump, pairs, next); e == api.OK {
			d.Arm(-1)
			if got := tell(t, l); got != whole {
				t.Errorf("loaded: %s", got)
			}
			break
		} else if e != api.ErrDead || l != nil {
			t.Fatalf("cut at %d: Load: %v, %d", n, l, e)
		}
		keeps(d, func(keep int, d *drive.Drive) {
			l := opened(t, d, plain)
			got := tell(t, l)
			if got != whole && got != none {
				t.Fatalf("cut at %d, %d kept: %s", n, keep, got)
			}
			counts[got]++
			append1(t, l, mark(99))
			drive.Clear(d)
			if again := tell(t, loaded(t, d, plain, dump, pairs, next)); again != whole {
				t.Fatalf("cut at %d, %d kept, wiped and loaded: %s", n, keep, again)
			}
		})
	}
	if counts[whole] == 0 || counts[none] == 0 {
		t.Errorf("whole %d times, none %d times", counts[whole], counts[none])
	}
}

func TestLoadOnFullDrives(t *testing.T) { // P13.4, P13.5
	s := with(t, crowd(9)...)
	dump, pairs := s.Dump(), has(t, s)
	for room := 0; ; room += 11 {
		d := drive.New(room + 4)
		d.Append("node", []byte("else"))
		d.Flush()
		ahead := files(d)
		l, e := store.Load(d, prefix, plain, dump, pairs, s.Next())
		if e == api.OK {
			if tell(t, l) != tell(t, s) || room < len(dump) {
				t.Errorf("room %d: %s", room, tell(t, l))
			}
			return
		}
		for range 2 {
			if e != api.ErrFull || l != nil || files(d) != ahead {
				t.Fatalf("room %d: Load: %v, %d; there is %s", room, l, e, files(d))
			}
			d.Crash(0)
		}
		if room > 1<<16 {
			t.Fatal("there is never room enough")
		}
	}
}

func TestScriptsGoOnElsewhere(t *testing.T) { // P13.4
	for seed := range int64(40) {
		r := begin(t, seed, 1<<20)
		for range 4 {
			r.script(40, true)
			dump := r.s.Dump()
			r.d = drive.New(1 << 20)
			r.o.Hand = r.rnd.Intn(9)
			r.s = loaded(t, r.d, r.o, dump, has(t, r.s), r.s.Next())
			r.kept, r.told, r.now = 0, false, r.now.opened()
			wantState(t, "loaded", r.s, r.now)
			if !bytes.Equal(r.s.Dump(), dump) {
				t.Fatal("the same store has another dump")
			}
		}
	}
}
