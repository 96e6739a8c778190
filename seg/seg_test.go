package seg_test

import (
	"fmt"
	"math"
	"math/rand"
	"slices"
	"testing"

	"groyne/api"
	"groyne/drive"
	"groyne/journal"
	"groyne/pack"
	"groyne/parity"
	"groyne/seg"
	"groyne/vault"
)

// logged is a journal with files of these records each, the last one not closed.
func logged(t *testing.T, at uint64, files ...string) *journal.Log {
	t.Helper()
	l, e := journal.Begin(drive.New(1<<20), "w.", 1<<16, at)
	for i, records := range files {
		for _, record := range records {
			if _, e := l.Append([]byte(string(record))); e != api.OK {
				t.Fatal(e)
			}
		}
		if i < len(files)-1 {
			l.Close()
		}
	}
	if e != api.OK {
		t.Fatal(e)
	}
	return l
}

func shelf() vault.Shelf { return vault.Shelf{Vault: vault.New(), Prefix: "n/"} }

// shipped is a shelf with the files of the chapter's example.
func shipped(t *testing.T) vault.Shelf {
	t.Helper()
	s := shelf()
	ships(t, "Ship", logged(t, 0, "abcd", "efghi", "jk"), s, 2, api.OK)
	return s
}

func ships(t *testing.T, what string, l *journal.Log, s vault.Shelf, want int, wrong api.Errno) {
	t.Helper()
	if n, e := seg.Ship(l, s); n != want || e != wrong {
		t.Errorf("%s = %d, %d, want %d, %d", what, n, e, want, wrong)
	}
}

func fetches(t *testing.T, s vault.Shelf, from, to uint64, want string) {
	t.Helper()
	records, e := seg.Fetch(s, from, to)
	got := ""
	for _, record := range records {
		got += string(record)
	}
	if got != want || e != api.OK {
		t.Errorf("Fetch(%d, %d) = %q, %d, want %q", from, to, got, e, want)
	}
}

func refuses(t *testing.T, s vault.Shelf, from, to uint64, want api.Errno) {
	t.Helper()
	if records, e := seg.Fetch(s, from, to); e != want || len(records) != 0 {
		t.Errorf("Fetch(%d, %d) = %q, %d, want %d", from, to, records, e, want)
	}
}

func spans(t *testing.T, s vault.Shelf, want string) {
	t.Helper()
	if got := fmt.Sprint(seg.Spans(s)); got != want {
		t.Errorf("Spans = %s, want %s", got, want)
	}
}

func TestExample(t *testing.T) { // P14.1, P14.2, P14.3
	s := shipped(t)
	spans(t, s, "[{0 4} {4 9}]")
	if at := seg.Reach(s, 2); at != 9 {
		t.Errorf("Reach(2) = %d", at)
	}
	fetches(t, s, 3, 6, "def")
	refuses(t, s, 8, 10, api.ErrNotArchived)
	s.Lose(s.Path("man.", vault.Number(4)))
	if at := seg.Reach(s, 0); at != 4 {
		t.Errorf("Reach(0) = %d", at)
	}
}

func TestShip(t *testing.T) { // P14.1
	s := shelf()
	ships(t, "a log without files", logged(t, 0), s, 0, api.OK)
	l := logged(t, 300, "ab", "c")
	ships(t, "the first", l, s, 1, api.OK)
	ships(t, "again", l, s, 0, api.OK)
	l.Close()
	ships(t, "closed", l, s, 1, api.OK)
	ships(t, "again", l, s, 0, api.OK)
	l.Append([]byte("d"))
	ships(t, "gone on", l, s, 0, api.OK)
	l.Append([]byte("e"))
	l.Close()
	l.Drop(303)
	ships(t, "dropped", l, s, 1, api.OK)
	spans(t, s, "[{300 302} {302 303} {303 305}]")
	fetches(t, s, 300, 305, "abcde")
	names := []string{"man.000000000000012c", "man.000000000000012e", "man.000000000000012f", "seg.000000000000012c", "seg.000000000000012e", "seg.000000000000012f"}
	if got := s.Names(""); !slices.Equal(got, names) || s.Count() != 6 {
		t.Errorf("on the shelf is %v", got)
	}
	begun, _ := journal.Begin(drive.New(1<<20), "w.", 1, 5)
	ships(t, "no records", begun, shelf(), 0, api.OK)
	begun.Append([]byte("a")) // goes into a file behind one without records
	begun.Append(nil)
	s = shelf()
	ships(t, "a file without records", begun, s, 1, api.OK)
	spans(t, s, "[{5 6}]")
	begun.Close()
	ships(t, "a record of nothing", begun, s, 1, api.OK)
	if records, e := seg.Fetch(s, 5, 7); e != api.OK || len(records) != 2 || len(records[1]) != 0 {
		t.Errorf("Fetch = %v, %d", records, e)
	}
}

func TestSomethingElseLiesThere(t *testing.T) { // P14.1
	for _, name := range []string{"seg.", "man."} {
		for _, at := range []uint64{0, 4} {
			for _, ahead := range []bool{false, true} {
				l, s := logged(t, 0, "abcd", "efghi", "jk"), shelf()
				name := s.Path(name, vault.Number(at))
				if ahead {
					ships(t, "Ship", l, s, 2, api.OK)
					s.Lose(name)
				}
				s.Put(name, []byte("else"))
				things := lies(s)
				ships(t, name, l, s, 0, api.ErrThere)
				if lies(s) != things {
					t.Errorf("%s: something has changed", name)
				}
				s.Lose(name)
				seg.Ship(l, s)
				fetches(t, s, 0, 9, "abcdefghi")
			}
		}
	}
	s := shipped(t)
	ships(t, "another log", logged(t, 0, "abcx", "y"), s, 0, api.ErrThere)
	ships(t, "one with a longer file", logged(t, 0, "abcde", "y"), s, 0, api.ErrThere)
	fetches(t, s, 0, 9, "abcdefghi")
}

// lies tells all that is on a shelf.
func lies(s vault.Shelf) string {
	out := ""
	for _, name := range s.Names() {
		b, _ := s.Fetch(name)
		out += fmt.Sprintf("%q %x\n", name, b)
	}
	return out
}

func TestDeadDrive(t *testing.T) { // P14.1
	l, s := logged(t, 0, "abcd", "ef"), shelf()
	l.Arm(0)
	l.Flush()
	ships(t, "a dead drive", l, s, 0, api.ErrDead)
	s.Store([]byte("else"), "man.", vault.Number(0))
	ships(t, "the least error", l, s, 0, api.ErrThere)
	if s.Count() != 1 {
		t.Errorf("something was put: %v", s.Names())
	}
	empty := logged(t, 0)
	empty.Arm(0)
	empty.Flush()
	ships(t, "nothing to be read", empty, s, 0, api.OK)
}

func TestWhatIsShippedIsSafe(t *testing.T) { // P14.1
	d := drive.New(1 << 20)
	l, _ := journal.Open(d, "w.", 30)
	for _, record := range "abcdef" {
		l.Append([]byte(string(record)))
	}
	s := shelf()
	d.Arm(0)
	ships(t, "a drive that dies", l, s, 0, api.ErrDead)
	if s.Count() != 0 {
		t.Errorf("something was put: %v", s.Names())
	}
	d.Crash(-1)
	l, _ = journal.Open(d, "w.", 30)
	l.Append([]byte("g"))
	l.Append([]byte("h"))
	n, e := seg.Ship(l, s)
	reach := seg.Reach(s, 0)
	d.Crash(0)
	l, _ = journal.Open(d, "w.", 30)
	if e != api.OK || n == 0 || l.Next() < reach || reach < 6 {
		t.Errorf("%d, %d: the vault has %d records, the log only %d", n, e, reach, l.Next())
	}
	l.Append([]byte("x"))
	if _, e := seg.Ship(l, s); e != api.OK {
		t.Errorf("Ship behind a crash: %d", e)
	}
}

func TestShipMakesNoDeedInVain(t *testing.T) { // P14.1
	l, s := logged(t, 0, "abcd", "ef"), shelf()
	l.Flush()
	l.Arm(0)
	ships(t, "all is safe", l, s, 1, api.OK)
	l.Arm(-1)
	l.Append([]byte("g"))
	ships(t, "nothing is new", l, s, 0, api.OK)
	if l.Queue() != 1 {
		t.Errorf("the queue has %d", l.Queue())
	}
}

func TestSpansAndReach(t *testing.T) { // P14.2
	s := shelf()
	spans(t, s, "[]")
	for _, c := range [][2]uint64{{0, 0}, {7, 7}, {math.MaxUint64, math.MaxUint64}} {
		if at := seg.Reach(s, c[0]); at != c[1] {
			t.Errorf("Reach(%d) of nothing = %d", c[0], at)
		}
	}
	ships(t, "Ship", logged(t, 300, "ab", "c"), s, 1, api.OK)
	ships(t, "Ship", logged(t, 9, "abc", "de", "f"), s, 2, api.OK)
	ships(t, "Ship", logged(t, 1<<40, "abc", "d"), s, 1, api.OK)
	spans(t, s, "[{9 12} {12 14} {300 302} {1099511627776 1099511627779}]")
	for from, want := range map[uint64]uint64{0: 0, 8: 8, 9: 14, 11: 14, 12: 14, 13: 14, 14: 14, 299: 299, 300: 302, 301: 302, 302: 302, 1<<40 + 2: 1<<40 + 3} {
		if at := seg.Reach(s, from); at != want {
			t.Errorf("Reach(%d) = %d, want %d", from, at, want)
		}
	}
	other := s.Sub("x/")
	if spans(t, other, "[]"); seg.Reach(other, 9) != 9 {
		t.Error("another shelf has the same segments")
	}
}

func TestFetch(t *testing.T) { // P14.1, P14.2
	s := shipped(t)
	all := "abcdefghi"
	for from := range uint64(12) {
		for to := range uint64(12) {
			switch {
			case from > to:
				refuses(t, s, from, to, api.ErrArg)
			case to > 9 && from < to:
				refuses(t, s, from, to, api.ErrNotArchived)
			default:
				fetches(t, s, from, to, all[min(from, 9):min(to, 9)])
			}
		}
	}
	refuses(t, s, 0, math.MaxUint64, api.ErrNotArchived)
	fetches(t, s, math.MaxUint64, math.MaxUint64, "")
	refuses(t, s, math.MaxUint64, 0, api.ErrArg)
}

func TestScan(t *testing.T) { // P14.2
	s := shipped(t)
	for _, c := range []struct {
		from, to uint64
		until    string
		at       uint64
		want     api.Errno
		seen     string
	}{
		{0, 9, "a", 0, api.OK, "a"},
		{0, 9, "d", 3, api.OK, "abcd"},
		{2, 9, "e", 4, api.OK, "cde"},
		{0, 9, "i", 8, api.OK, "abcdefghi"},
		{0, 8, "i", 0, api.ErrNone, "abcdefgh"},
		{1, 5, "a", 0, api.ErrNone, "bcde"},
		{4, 4, "e", 0, api.ErrNone, ""},
		{77, 77, "e", 0, api.ErrNone, ""},
		{5, 4, "e", 0, api.ErrArg, ""},
		{0, 10, "i", 8, api.OK, "abcdefghi"}, // the next one isn't come to
		{0, 10, "x", 0, api.ErrNotArchived, "abcdefghi"},
		{0, math.MaxUint64, "x", 0, api.ErrNotArchived, "abcdefghi"},
		{9, 10, "x", 0, api.ErrNotArchived, ""},
		{50, 60, "x", 0, api.ErrNotArchived, ""},
	} {
		next, seen := c.from, ""
		at, e := seg.Scan(s, c.from, c.to, func(at uint64, record []byte) bool {
			if at != next {
				t.Errorf("%v: the record of %d comes as that of %d", c, next, at)
			}
			next++
			seen += string(record)
			return string(record) == c.until
		})
		if at != c.at || e != c.want || seen != c.seen {
			t.Errorf("%v: Scan = %d, %d, seen %s", c, at, e, seen)
		}
	}
	if at, e := seg.Scan(s, 0, 9, nil); at != 0 || e != api.ErrNone {
		t.Errorf("Scan for nothing = %d, %d", at, e)
	}
}

func TestWhatIsLost(t *testing.T) { // P14.3
	for _, thing := range []string{"seg.", "man."} {
		for _, gone := range []uint64{0, 4} {
			s := shipped(t)
			if s.Lose(s.Path(thing, vault.Number(gone))) != 1 {
				t.Fatal("it wasn't there")
			}
			for from := range uint64(9) {
				for to := from + 1; to <= 9; to++ {
					lost := from < 4 && gone == 0 || to > 4 && gone == 4
					records, e := seg.Fetch(s, from, to)
					if lost != (e == api.ErrNotArchived) || lost != (len(records) == 0) {
						t.Errorf("%s%d is lost: Fetch(%d, %d) = %q, %d", thing, gone, from, to, records, e)
					}
					_, e = seg.Scan(s, from, to, func(uint64, []byte) bool { return false })
					if lost != (e == api.ErrNotArchived) {
						t.Errorf("%s%d is lost: Scan(%d, %d): %d", thing, gone, from, to, e)
					}
				}
			}
			there := 4 - gone
			if at, e := seg.Scan(s, there, 9, func(uint64, []byte) bool { return true }); at != there || e != api.OK {
				t.Errorf("%s%d is lost: Scan ahead of it: %d, %d", thing, gone, at, e)
			}
			// It is shipped again, and counts by the second thing.
			count := map[string]int{"man.": 1}[thing]
			ships(t, thing, logged(t, 0, "abcd", "efghi", "jk"), s, count, api.OK)
			fetches(t, s, 0, 9, "abcdefghi")
		}
	}
}

// span is what the two things of a segment begin with.
func span(from, to uint64) []byte {
	b, _ := parity.Seal(pack.Number(from, to))
	return b
}

// thing is what lies on a shelf as that of a segment.
func thing(s vault.Shelf, name string, at uint64) []byte {
	b, _ := s.Fetch(name, vault.Number(at))
	return b
}

// replaced is a shelf with the example's files, and something else as a thing of the second.
func replaced(t *testing.T, name string, b []byte) vault.Shelf {
	t.Helper()
	s := shipped(t)
	s.Lose(s.Path(name, vault.Number(4)))
	s.Store(b, name, vault.Number(4))
	return s
}

func TestOtherRecords(t *testing.T) { // P14.3
	s, other := shipped(t), shelf()
	first, second := thing(s, "seg.", 0), thing(s, "seg.", 4)
	ships(t, "Ship", logged(t, 4, "vwx", "y"), other, 1, api.OK)
	ships(t, "Ship", logged(t, 9, "efghi", "y"), other, 1, api.OK)
	turned := slices.Clone(second)
	turned[len(turned)-1] ^= 1
	for what, b := range map[string][]byte{
		"nothing":       nil,
		"junk":          []byte("junk"),
		"another's":     first,
		"cut":           second[:len(second)-1],
		"with more":     append(slices.Clone(second), 0),
		"a bit turned":  turned,
		"its ends":      thing(s, "man.", 4),
		"a record less": second[:len(second)-parity.Sealed(1)],
		"a record more": slices.Concat(second, second[len(second)-parity.Sealed(1):]),
		"shorter":       thing(other, "seg.", 4),
		"elsewhere's":   thing(other, "seg.", 9),
	} {
		s := replaced(t, "seg.", b)
		for _, c := range [][2]uint64{{3, 5}, {4, 5}, {8, 9}} {
			if records, e := seg.Fetch(s, c[0], c[1]); e != api.ErrNotArchived || len(records) != 0 {
				t.Errorf("the records' thing is %s: Fetch(%v) = %q, %d", what, c, records, e)
			}
		}
		fetches(t, s, 0, 4, "abcd")
	}
}

func TestOtherEnds(t *testing.T) { // P14.2, P14.3
	s := shipped(t)
	ends := thing(s, "man.", 4)
	number, _ := parity.Seal(pack.Number(4))
	for what, b := range map[string][]byte{
		"nothing":              nil,
		"junk":                 []byte("junk"),
		"another's":            span(0, 4),
		"cut":                  ends[:len(ends)-1],
		"with more":            append(slices.Clone(ends), 0),
		"the records":          thing(s, "seg.", 4),
		"no records":           span(4, 4),
		"falling":              span(4, 3),
		"one number":           number,
		"more than there are":  span(4, 10),
		"fewer than there are": span(4, 8),
	} {
		s := replaced(t, "man.", b)
		refuses(t, s, 3, 5, api.ErrNotArchived)
		fetches(t, s, 0, 4, "abcd")
		if what == "more than there are" || what == "fewer than there are" {
			continue
		}
		if at := seg.Reach(s, 0); at != 4 || len(seg.Spans(s)) != 1 {
			t.Errorf("the ends' thing is %s: Reach(0) = %d, Spans = %v", what, at, seg.Spans(s))
		}
	}
}

func TestForeignNames(t *testing.T) { // P14.2
	s := shipped(t)
	for _, name := range []string{"man.", "man.4", "man.000000000000000A", "man.00000000000000090", "man.0000000000000009x", "man.man.0000000000000009", "seg", "base.0000000000000009", "0000000000000009"} {
		s.Store(span(9, 11), name)
		s.Store(span(10, 11), name, "~")
	}
	s.Store(span(0, 4), "man.0")
	spans(t, s, "[{0 4} {4 9}]")
	if at := seg.Reach(s, 0); at != 9 {
		t.Errorf("Reach(0) = %d", at)
	}
	fetches(t, s, 0, 9, "abcdefghi")
}

func TestMemory(t *testing.T) { // P14.4
	s := shipped(t)
	smear := func(b []byte) {
		b = b[:cap(b)]
		for i := range b {
			b[i] = '!'
		}
	}
	records, _ := seg.Fetch(s, 0, 9)
	for i := range records {
		smear(records[i])
		if i+1 < len(records) && records[i+1][0] == '!' {
			t.Errorf("records share memory")
		}
	}
	list := seg.Spans(s)
	clear(list[:cap(list)])
	seen := ""
	seg.Scan(s, 0, 9, func(_ uint64, record []byte) bool {
		seen += string(record)
		smear(record)
		return false
	})
	if seen != "abcdefghi" {
		t.Errorf("seen is %s", seen)
	}
	spans(t, s, "[{0 4} {4 9}]")
	fetches(t, s, 0, 9, "abcdefghi")
}

// archive is a log beside all that was ever shipped of it.
type archive struct {
	t       *testing.T
	rnd     *rand.Rand
	d       *drive.Drive
	l       *journal.Log
	s       vault.Shelf
	records []string
	reach   uint64
}

func (a *archive) open(most int) {
	l, e := journal.Open(a.d, "w.", most)
	if e != api.OK || l.Next() > uint64(len(a.records)) || l.Next() < a.reach {
		a.t.Fatalf("Open: %d, next %d, shipped %d", e, l.Next(), a.reach)
	}
	a.l, a.records = l, a.records[:l.Next()]
}

func (a *archive) append() {
	for range a.rnd.Intn(3) {
		record := make([]byte, a.rnd.Intn(60))
		a.rnd.Read(record)
		a.l.Append(record)
		a.records = append(a.records, string(record))
	}
}

func (a *archive) ship() {
	want := 0
	for _, p := range a.l.Spans() {
		if p.From < p.To && p.To <= a.l.Closed() {
			if p.From >= a.reach {
				want++
			}
			a.reach = max(a.reach, p.To)
		}
	}
	if n, e := seg.Ship(a.l, a.s); n != want || e != api.OK {
		a.t.Fatalf("Ship = %d, %d, want %d", n, e, want)
	}
}

func (a *archive) look() {
	if at := seg.Reach(a.s, 0); at != a.reach {
		a.t.Fatalf("Reach(0) = %d, want %d", at, a.reach)
	}
	from := uint64(a.rnd.Intn(int(a.reach) + 1))
	to := from + uint64(a.rnd.Intn(int(a.reach-from)+1))
	records, e := seg.Fetch(a.s, from, to)
	same := slices.EqualFunc(records, a.records[from:to], func(b []byte, s string) bool { return string(b) == s })
	if e != api.OK || !same {
		a.t.Fatalf("Fetch(%d, %d): %d", from, to, e)
	}
}

func TestScripts(t *testing.T) { // P14.1, P14.2
	far := uint64(0)
	for seed := range int64(60) {
		rnd := rand.New(rand.NewSource(seed))
		a := &archive{t: t, rnd: rnd, d: drive.New(1 << 20), s: shelf()}
		a.open(rnd.Intn(300))
		for range 150 {
			switch rnd.Intn(9) {
			case 0:
				a.l.Close()
			case 1:
				a.ship()
			case 2:
				a.l.Drop(a.reach - uint64(rnd.Intn(int(a.reach)+1)))
			case 3:
				a.d.Crash(rnd.Intn(1000))
				a.open(rnd.Intn(300))
			case 4:
				a.l.Flush()
			default:
				a.append()
			}
			a.look()
		}
		far = max(far, a.reach)
	}
	if far < 40 {
		t.Errorf("only %d records were ever shipped", far)
	}
}
