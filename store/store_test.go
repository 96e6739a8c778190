package store_test

import (
	"bytes"
	"fmt"
	"slices"
	"testing"

	"groyne/api"
	"groyne/drive"
	"groyne/journal"
	"groyne/rec"
	"groyne/store"
)

func txn(n uint64) api.Txn { return api.Txn{Boot: 1, Session: 1, Seq: n} }

func put(key, value string) api.Write {
	return api.Write{Key: []byte(key), Value: []byte(value)}
}

func gone(key string) api.Write { return api.Write{Key: []byte(key), Gone: true} }

func span(from, to string, excl bool) api.Range {
	return api.Range{From: []byte(from), To: []byte(to), Excl: excl}
}

// own locks each key that a write writes.
func own(writes ...api.Write) []api.Range {
	var ranges []api.Range
	for _, w := range writes {
		ranges = append(ranges, span(string(w.Key), string(w.Key)+"\x00", true))
	}
	return ranges
}

func prepare(n uint64, writes ...api.Write) rec.Rec {
	return rec.Rec{Kind: rec.Prepare, Txn: txn(n), Writes: writes, Ranges: own(writes...)}
}

func commit(n uint64) rec.Rec { return rec.Rec{Kind: rec.Commit, Txn: txn(n)} }

func abort(n uint64) rec.Rec { return rec.Rec{Kind: rec.Abort, Txn: txn(n)} }

func one(n uint64, reply string, writes ...api.Write) rec.Rec {
	return rec.Rec{Kind: rec.One, Txn: txn(n), Writes: writes, Reply: []byte(reply)}
}

func mark(id uint64) rec.Rec { return rec.Rec{Kind: rec.Mark, Id: id, Name: "b"} }

var plain = store.Options{Hand: 2, Most: 100}

// with is a store with these records, appended one by one.
func with(t *testing.T, recs ...rec.Rec) *store.Store {
	t.Helper()
	s := opened(t, drive.New(1<<22), plain)
	for _, r := range recs {
		append1(t, s, r)
	}
	return s
}

func TestExample(t *testing.T) { // P13.1
	s := with(t)
	if at := append1(t, s, prepare(1, put("a", "1"))); at != 0 {
		t.Errorf("Append = %d", at)
	}
	if k, known := s.Known(txn(1)); !known || !k.Prepared || k.Commit || k.At != 0 || len(k.Reply) != 0 {
		t.Errorf("Known = %v, %v", k, known)
	}
	if _, there, e := s.Get([]byte("a")); there || e != api.OK {
		t.Errorf("Get = %v, %d", there, e)
	}
	answers(t, "Ask", s.Locks().Ask(txn(2), own(gone("a"))...), api.ErrLocked)
	if at := append1(t, s, commit(1)); at != 1 {
		t.Errorf("Append = %d", at)
	}
	if v, there, e := s.Get([]byte("a")); !there || string(v) != "1" || e != api.OK {
		t.Errorf("Get = %q, %v, %d", v, there, e)
	}
	answers(t, "Ask", s.Locks().Ask(txn(2), own(gone("a"))...), api.OK)
	_, e := s.Append(commit(1))
	answers(t, "Append", e, api.ErrArg)
}

func TestEmptyDrive(t *testing.T) { // P13.1, P13.5
	d := drive.New(0)
	s := opened(t, d, store.Options{})
	if d.Used() != 0 || d.Queue() != 0 || len(d.List("")) != 0 {
		t.Errorf("something was written: %v", d.List(""))
	}
	wantState(t, "P13.1: an empty store", s, nothing())
	if at, e := s.Append(mark(1)); at != 0 || e != api.ErrFull {
		t.Errorf("P13.5: Append = %d, %d", at, e)
	}
	answers(t, "P13.5: Checkpoint", s.Checkpoint(), api.ErrFull)
	wantState(t, "P13.5: a full drive", s, nothing())
	if s.Log() == nil || s.Log().Next() != 0 || s.Root() < 0 {
		t.Error("P13.1: an empty store has a log, and a tree")
	}
	d.Arm(0)
	d.Flush()
	if s, e := store.Open(d, prefix, plain); s != nil || e != api.ErrDead {
		t.Errorf("P13.2: Open on a dead drive: %v, %d", s, e)
	}
	if at, e := s.Append(); at != 0 || e != api.OK {
		t.Errorf("P13.1: no records: %d, %d", at, e)
	}
	if _, e := s.Append(mark(1)); e != api.ErrDead {
		t.Errorf("P13.1: Append on a dead drive: %d", e)
	}
	if _, e := s.Append(mark(1), mark(1)); e != api.ErrArg {
		t.Errorf("P13.1: the least error on a dead drive: %d", e)
	}
	answers(t, "P13.3: Checkpoint on a dead drive", s.Checkpoint(), api.ErrDead)
}

func TestNoRecords(t *testing.T) { // P13.1
	s := with(t, mark(1), mark(2))
	s.Log().Arm(0)
	if at, e := s.Append(); at != 2 || e != api.OK {
		t.Errorf("Append() = %d, %d", at, e)
	}
}

// long is a text of so many bytes.
func long(n int) string { return string(bytes.Repeat([]byte{'x'}, n)) }

func ranged(n uint64, ranges ...api.Range) rec.Rec {
	return rec.Rec{Kind: rec.Prepare, Txn: txn(n), Ranges: ranges}
}

// someState is a store of all that there may be: 1 is prepared, 2 committed, 3 given up, 4 a One, 5 holds a range.
func someState(t *testing.T) *store.Store {
	t.Helper()
	s := with(t, prepare(1, put("a", "1")), prepare(2, put("b", "2")), commit(2), prepare(3, put("c", "3")), abort(3), one(4, "r", put("d", "4")), mark(7))
	answers(t, "Ask", s.Locks().Ask(txn(5), own(gone("e"))...), api.OK)
	return s
}

func TestWhatCantBeDone(t *testing.T) { // P13.1
	s := someState(t)
	ahead := tell(t, s)
	for what, r := range map[string]rec.Rec{
		"prepared again":            prepare(1),
		"prepared when committed":   prepare(2),
		"prepared when given up":    prepare(3),
		"prepared when a One":       prepare(4),
		"locked by one prepared":    prepare(6, gone("a")),
		"locked by one who asked":   prepare(6, gone("e")),
		"shared with one prepared":  ranged(6, span("", "", false)),
		"a range out of form":       ranged(6, span("b", "a", false)),
		"a range's end too long":    ranged(6, span(long(66), "", false)),
		"too many ranges":           ranged(6, slices.Repeat([]api.Range{span("x", "y", false)}, 65)...),
		"a write's key too long":    {Kind: rec.Prepare, Txn: txn(6), Writes: []api.Write{put("x", "1"), gone(long(65))}},
		"a write's value too long":  {Kind: rec.Prepare, Txn: txn(6), Writes: []api.Write{put("x", long(129))}},
		"committed, unknown":        commit(6),
		"committed, holding locks":  commit(5),
		"committed again":           commit(2),
		"committed when given up":   commit(3),
		"committed when a One":      commit(4),
		"given up, unknown":         abort(6),
		"given up again":            abort(3),
		"given up when committed":   abort(2),
		"given up when a One":       abort(4),
		"a One when prepared":       one(1, ""),
		"a One when committed":      one(2, ""),
		"a One when given up":       one(3, ""),
		"a One again":               one(4, "r", put("d", "4")),
		"a One's key too long":      one(6, "", put(long(65), "")),
		"a One's value too long":    one(6, "", put("x", long(129))),
		"a barrier that stands":     mark(7),
		"a decision":                {Kind: rec.Decide, Txn: txn(6)},
		"a cut":                     {Kind: rec.Cut, Id: 8},
		"what is done":              {Kind: rec.Done, Id: 7},
		"an end":                    {Kind: rec.End, Txn: txn(2)},
		"no kind":                   {},
		"a kind above":              {Kind: 10},
		"a kind below":              {Kind: -1},
		"a kind with a Mark's bits": {Kind: 256 + rec.Mark, Id: 9},
	} {
		for _, recs := range [][]rec.Rec{{r}, {one(8, "", put("z", "z")), r}, {r, mark(8)}} {
			if at, e := s.Append(recs...); e != api.ErrArg || at != 0 {
				t.Errorf("%s: Append = %d, %d", what, at, e)
			}
		}
	}
	if got := tell(t, s); got != ahead || s.Log().Queue() != 0 {
		t.Errorf("something has changed: %s not %s", got, ahead)
	}
}

func TestWhatJustCanBeDone(t *testing.T) { // P13.1
	for what, r := range map[string]rec.Rec{
		"the longest key and value": prepare(6, put(long(64), long(128))),
		"what is gone needs no fit": {Kind: rec.Prepare, Txn: txn(6), Writes: []api.Write{{Key: []byte("x"), Value: []byte(long(500)), Gone: true}}},
		"so in a One":               {Kind: rec.One, Txn: txn(6), Writes: []api.Write{{Key: []byte("d"), Value: []byte(long(500)), Gone: true}}},
		"nothing at all":            {Kind: rec.Prepare, Txn: txn(6)},
		"no lock for its writes":    {Kind: rec.Prepare, Txn: txn(6), Writes: []api.Write{put("a", "7")}},
		"64 ranges":                 ranged(6, slices.Repeat([]api.Range{span("x", "y", true)}, 64)...),
		"ends of 65 bytes":          ranged(6, span(long(65), "", true)),
		"a part that is free":       ranged(6, span("a\x00", "e", true)),
		"who has asked for it":      prepare(5, gone("e")),
		"who has asked otherwise":   prepare(5, gone("f")),
		"a One where one is locked": one(6, "", put("a", "2")),
		"a One of who holds locks":  one(5, ""),
		"a One without Boot":        {Kind: rec.One},
		"another barrier":           mark(8),
		"a barrier's Id is 0":       {Kind: rec.Mark},
		"what the kind doesn't use": {Kind: rec.Prepare, Txn: txn(6), Reply: []byte("r"), Commit: true, Shards: []int{1}, Id: 7, Name: "n"},
	} {
		s := someState(t)
		if at, e := s.Append(r); e != api.OK || at != 7 {
			t.Errorf("%s: Append = %d, %d", what, at, e)
		}
		ahead := tell(t, s)
		d := s.Log().Drive
		d.Crash(0)
		s = opened(t, d, plain)
		if _, known := s.Known(txn(5)); !known {
			answers(t, what, s.Locks().Ask(txn(5), own(gone("e"))...), api.OK)
		}
		// What was asked for ahead of a Prepare isn't in the log.
		if got := tell(t, s); got != ahead && what != "who has asked otherwise" {
			t.Errorf("P13.2: %s: opened again it is\n%s not\n%s", what, got, ahead)
		}
	}
}

func TestOneBehindTheOther(t *testing.T) { // P13.1
	a, b := put("a", "x"), put("b", "y")
	for what, c := range map[string]struct {
		recs []rec.Rec
		can  bool
	}{
		"a whole life":                     {[]rec.Rec{prepare(6, b), commit(6)}, true},
		"two of one range":                 {[]rec.Rec{prepare(6, b), prepare(8, b)}, false},
		"two, the first committed between": {[]rec.Rec{prepare(6, b), commit(6), prepare(8, b), abort(8)}, true},
		"two, the first given up between":  {[]rec.Rec{prepare(6, b), abort(6), prepare(8, b)}, true},
		"behind one who held it ahead":     {[]rec.Rec{commit(1), prepare(6, a)}, true},
		"so when given up":                 {[]rec.Rec{abort(1), prepare(6, a)}, true},
		"ahead of that":                    {[]rec.Rec{prepare(6, a), commit(1)}, false},
		"behind the One of a holder":       {[]rec.Rec{one(5, ""), prepare(6, gone("e"))}, true},
		"a holder is prepared":             {[]rec.Rec{prepare(5), prepare(6, gone("e"))}, false},
		"and ended":                        {[]rec.Rec{prepare(5), abort(5), prepare(6, gone("e"))}, true},
		"committed twice":                  {[]rec.Rec{commit(1), commit(1)}, false},
		"committed, then given up":         {[]rec.Rec{commit(1), abort(1)}, false},
		"prepared again":                   {[]rec.Rec{abort(1), prepare(1)}, false},
		"a One of what was prepared":       {[]rec.Rec{prepare(6), one(6, "")}, false},
		"prepared behind its One":          {[]rec.Rec{one(6, ""), prepare(6)}, false},
		"two Ones":                         {[]rec.Rec{one(6, "", a), one(8, "", a)}, true},
		"a One twice":                      {[]rec.Rec{one(6, "", a), one(6, "", a)}, false},
		"barriers":                         {[]rec.Rec{mark(8), mark(9), mark(10)}, true},
		"a barrier twice":                  {[]rec.Rec{mark(8), mark(9), mark(8)}, false},
	} {
		s := someState(t)
		ahead := tell(t, s)
		at, e := s.Append(c.recs...)
		if c.can && (e != api.OK || at != 7 || s.Next() != 7+uint64(len(c.recs))) {
			t.Errorf("%s: Append = %d, %d", what, at, e)
		}
		if !c.can && (e != api.ErrArg || at != 0 || tell(t, s) != ahead) {
			t.Errorf("%s: Append = %d, %d, the store is %s", what, at, e, tell(t, s))
		}
	}
}

func TestTooLongForTheLog(t *testing.T) { // P13.1
	s := with(t, mark(7))
	ahead := tell(t, s)
	most := api.MaxRecord - len(one(6, long(api.MaxRecord-100)).Bytes()) + api.MaxRecord - 100
	if len(one(6, long(most)).Bytes()) != api.MaxRecord {
		t.Fatal("the longest reply isn't")
	}
	_, e := s.Append(mark(8), one(6, long(most+1)))
	answers(t, "one byte too long", e, api.ErrSize)
	_, e = s.Append(one(6, long(most+1)), mark(7))
	answers(t, "of both the least", e, api.ErrArg)
	if tell(t, s) != ahead {
		t.Errorf("something has changed: %s", tell(t, s))
	}
	if at := append1(t, s, one(6, long(most))); at != 1 {
		t.Errorf("the longest: %d", at)
	}
	if k, _ := s.Known(txn(6)); len(k.Reply) != most {
		t.Errorf("its reply has %d bytes", len(k.Reply))
	}
}

func TestLooks(t *testing.T) { // P13.1
	s := someState(t)
	for n, want := range []string{"{false false [] 0} false", "{true false [] 0} true", "{false true [] 2} true", "{false false [] 4} true", "{false true [114] 5} true", "{false false [] 0} false"} {
		k, known := s.Known(txn(uint64(n)))
		if got := fmt.Sprint(k, " ", known); got != want {
			t.Errorf("Known(%d) = %s, want %s", n, got, want)
		}
	}
	if got := fmt.Sprint(s.Prepared(), s.Ones(), s.Committed(), s.Locks().All()); got != "[{1 1 1}] [{1 1 4}] [{1 1 2} {1 1 4}] [{1 1 1} {1 1 5}]" {
		t.Errorf("Prepared, Ones, Committed, All = %s", got)
	}
	for n := range uint64(6) {
		r, prepared := s.Branch(txn(n))
		want := rec.Rec{}
		if n == 1 {
			want = prepare(1, put("a", "1"))
		}
		if prepared != (n == 1) || tellBranch(r) != tellBranch(want) {
			t.Errorf("Branch(%d) = %s, %v", n, tellBranch(r), prepared)
		}
	}
	if at, stands := s.Marked(7); at != 6 || !stands {
		t.Errorf("Marked(7) = %d, %v", at, stands)
	}
	if at, stands := s.Marked(6); at != 0 || stands {
		t.Errorf("Marked(6) = %d, %v", at, stands)
	}
	if s.Next() != 7 || s.Log().Next() != 7 {
		t.Errorf("Next = %d", s.Next())
	}
	text, e := s.Log().Records(2, 3)
	if r, bad := rec.Read(text[0]); e != api.OK || bad != api.OK || r.Kind != rec.Commit || r.Txn != txn(2) {
		t.Errorf("the log has %v, %d", r, bad)
	}
}

func TestRising(t *testing.T) { // P13.1
	var recs []rec.Rec
	for _, x := range []api.Txn{{Boot: 2}, {Boot: 1, Session: 2, Seq: 1}, {Boot: 1, Session: 1, Seq: 9}, {Boot: 1, Session: 10}, {Boot: 1, Session: 1, Seq: 10}, {}} {
		recs = append(recs, rec.Rec{Kind: rec.One, Txn: x}, rec.Rec{Kind: rec.Prepare, Txn: api.Txn{Boot: x.Boot + 7, Session: x.Session, Seq: x.Seq}})
	}
	s := with(t, recs...)
	if got := fmt.Sprint(s.Ones(), s.Committed(), s.Prepared()); got != "[{0 0 0} {1 1 9} {1 1 10} {1 2 1} {1 10 0} {2 0 0}] [{0 0 0} {1 1 9} {1 1 10} {1 2 1} {1 10 0} {2 0 0}] [{7 0 0} {8 1 9} {8 1 10} {8 2 1} {8 10 0} {9 0 0}]" {
		t.Errorf("Ones, Committed, Prepared = %s", got)
	}
}

func TestWhatIsCommittedIsInTheTree(t *testing.T) { // P13.1
	s := with(t, one(1, "", put("a", "1"), put("b", "1"), put("a", "2")), prepare(2, gone("a"), put("c", "3"), gone("x")), prepare(3, put("b", "9")))
	want := func(text string) {
		t.Helper()
		pairs, e := s.Tree.Scan(nil, nil, 0)
		got := ""
		for _, p := range pairs {
			got += string(p.Key) + string(p.Value) + " "
		}
		if got != text || e != api.OK {
			t.Errorf("the tree has %s, %d, want %s", got, e, text)
		}
	}
	want("a2 b1 ")
	append1(t, s, commit(2))
	want("b1 c3 ")
	append1(t, s, abort(3))
	want("b1 c3 ")
}

func TestPrefixes(t *testing.T) { // P13.1, P13.2: stores side by side, and other files
	d := drive.New(1 << 20)
	d.Append("node", []byte("else"))
	for i, prefix := range []string{"a/", "b/", "a/b/"} {
		s, e := store.Open(d, prefix, plain)
		if e != api.OK || s.Next() != 0 {
			t.Fatalf("Open(%s): %d", prefix, e)
		}
		append1(t, s, one(uint64(i), "", put("k", prefix)))
		answers(t, "Checkpoint", s.Checkpoint(), api.OK)
	}
	for i, prefix := range []string{"a/", "b/", "a/b/"} {
		s, e := store.Open(d, prefix, plain)
		if e != api.OK {
			t.Fatalf("Open(%s): %d", prefix, e)
		}
		if v, _, _ := s.Get([]byte("k")); string(v) != prefix || !slices.Equal(s.Ones(), []api.Txn{txn(uint64(i))}) {
			t.Errorf("Open(%s): %q, %v", prefix, v, s.Ones())
		}
	}
	for _, name := range d.List("") {
		if name != "node" && name[:2] != "a/" && name[:2] != "b/" {
			t.Errorf("a file beside the prefixes: %s", name)
		}
	}
}

func TestLogIsFull(t *testing.T) { // P13.1: Most and Hand go to the layers below
	for most, want := range map[int]string{-5: "[{0 1} {1 2} {2 3}]", 1: "[{0 1} {1 2} {2 3}]", 1 << 20: "[{0 3}]"} {
		s := opened(t, drive.New(1<<20), store.Options{Most: most})
		for id := range uint64(3) {
			append1(t, s, mark(id))
		}
		if got := fmt.Sprint(s.Log().Spans()); got != want {
			t.Errorf("Most %d: %s", most, got)
		}
	}
	s := opened(t, drive.New(1<<20), store.Options{Hand: 3})
	for n := range uint64(99) {
		append1(t, s, one(n, "", put(long(int(n%60)), long(100))))
		if s.Hand() > 3 {
			t.Fatalf("%d pages are at hand", s.Hand())
		}
	}
	var l *journal.Log = s.Log()
	if l.Next() != 99 || s.Count() < 9 {
		t.Errorf("Next = %d, pages %d", l.Next(), s.Count())
	}
}
