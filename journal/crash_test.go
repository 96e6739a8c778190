package journal

import (
	"fmt"
	"maps"
	"math/rand"
	"slices"
	"strings"
	"testing"

	"groyne/api"
	"groyne/drive"
	"groyne/parity"
)

// lying is what Open finds, and what it leaves of it.
type lying struct {
	files map[string][]byte
	told  string // of the journal; all of it is closed
	left  string // the names that are left
}

// littered answers what may lie there, in disorder.
func littered() map[string]lying {
	a, b, c := made(1, 0, "a", "b"), made(2, 2, "c"), made(3, 3, "d", "e")
	whole := `first 0 next 5 closed 5 spans [{0 2} {2 3} {3 5}] records ["a" "b" "c" "d" "e"] 0`
	two := `first 0 next 3 closed 3 spans [{0 2} {2 3}] records ["a" "b" "c"] 0`
	one := `first 0 next 2 closed 2 spans [{0 2}] records ["a" "b"] 0`
	none := `first 0 next 0 closed 0 spans [] records [] 0`
	head, _ := parity.Seal([]byte{3, 3, 0})
	short, _ := parity.Seal([]byte{3})
	long, _ := parity.Seal([]byte{248, 3, 3})
	nobody, _ := parity.Seal(nil)
	join := slices.Concat[[]byte]
	ten := map[string][]byte{}
	names := []string{}
	for i := range uint64(11) {
		name := fmt.Sprint("w", i+9)
		ten[name], names = made(i+9, i+70, "x"), append(names, name)
	}
	return map[string]lying{
		"all is well":                    {map[string][]byte{"w1": a, "w2": b, "w3": c}, whole, "w1 w2 w3"},
		"nobody's files":                 {map[string][]byte{"w": c, "w0": c, "w01": c, "w1": a, "w2": b, "w2~": c, "w3": c, "w3 ": a, "x1": a, "4": a, "w-4": c}, whole, "4 w w-4 w0 w01 w1 w2 w2~ w3 w3  x1"},
		"a gap":                          {map[string][]byte{"w1": a, "w3": c, "w4": c}, one, "w1"},
		"a gap with fitting indexes":     {map[string][]byte{"w1": a, "w3": made(3, 2, "d")}, one, "w1"},
		"another's serial":               {map[string][]byte{"w1": a, "w2": b, "w3": made(4, 3, "d")}, two, "w1 w2"},
		"the serial ahead":               {map[string][]byte{"w1": a, "w2": made(1, 2, "d")}, one, "w1"},
		"the first has another's serial": {map[string][]byte{"w1": b, "w2": b, "w3": c}, none, ""},
		"an index too low":               {map[string][]byte{"w1": a, "w2": made(2, 1, "c"), "w3": c}, one, "w1"},
		"an index too high":              {map[string][]byte{"w1": a, "w2": b, "w3": made(3, 4, "d")}, two, "w1 w2"},
		"a head with more behind":        {map[string][]byte{"w1": a, "w2": b, "w3": join(head, c)}, two, "w1 w2"},
		"a head with less":               {map[string][]byte{"w1": a, "w2": b, "w3": short}, two, "w1 w2"},
		"a head not in form":             {map[string][]byte{"w1": a, "w2": b, "w3": long}, two, "w1 w2"},
		"a head of nothing":              {map[string][]byte{"w1": a, "w2": b, "w3": nobody}, two, "w1 w2"},
		"no head":                        {map[string][]byte{"w1": a, "w2": b, "w3": nil}, two, "w1 w2"},
		"a head that ends":               {map[string][]byte{"w1": a, "w2": b[:10], "w3": c}, one, "w1"},
		"no head of the first":           {map[string][]byte{"w1": a[:10], "w2": b, "w3": c}, none, ""},
		"a torn end":                     {map[string][]byte{"w1": a, "w2": b, "w3": c[:len(c)-1]}, `first 0 next 4 closed 4 spans [{0 2} {2 3} {3 4}] records ["a" "b" "c" "d"] 0`, "w1 w2 w3"},
		"more than an end":               {map[string][]byte{"w1": a, "w2": b, "w3": join(c, []byte{7})}, whole, "w1 w2 w3"},
		"a torn file in the midst":       {map[string][]byte{"w1": a[:len(a)-1], "w2": b, "w3": c}, `first 0 next 1 closed 1 spans [{0 1}] records ["a"] 0`, "w1"},
		"more in the midst":              {map[string][]byte{"w1": a, "w2": join(b, b[:3]), "w3": c}, two, "w1 w2"},
		"torn behind the head":           {map[string][]byte{"w1": a, "w2": b[:len(b)-1], "w3": c}, `first 0 next 2 closed 2 spans [{0 2} {2 2}] records ["a" "b"] 0`, "w1 w2"},
		"a file without records":         {map[string][]byte{"w1": a, "w2": made(2, 2), "w3": made(3, 2, "c")}, `first 0 next 3 closed 3 spans [{0 2} {2 2} {2 3}] records ["a" "b" "c"] 0`, "w1 w2 w3"},
		"any first serial and index":     {map[string][]byte{"w7": made(7, 300, "a"), "w8": made(8, 301)}, `first 300 next 301 closed 301 spans [{300 301} {301 301}] records ["a"] 0`, "w7 w8"},
		"by serials, not by texts":       {ten, `first 70 next 81 closed 81 spans [{70 71} {71 72} {72 73} {73 74} {74 75} {75 76} {76 77} {77 78} {78 79} {79 80} {80 81}] records ["x" "x" "x" "x" "x" "x" "x" "x" "x" "x" "x"] 0`, strings.Join(slices.Sorted(slices.Values(names)), " ")},
		"numbers above all serials":      {map[string][]byte{"w1": a, "w2": b, "w18446744073709551616": made(0, 3), "w18446744073709551619": c, "w99999999999999999999999": c}, two, "w1 w2"},
		"such numbers alone":             {map[string][]byte{"w18446744073709551617": a, "x": a}, none, "x"},
	}
}

func TestOpenTidiesUp(t *testing.T) { // P5.1, P5.5
	for what, c := range littered() {
		d := laid(c.files)
		l := opened(t, d, "w", 10)
		wantTold(t, what, l, c.told)
		if left := strings.Join(d.List(""), " "); left != c.left || d.Queue() != 0 {
			t.Errorf("%s: %s is left, not %s; queue %d", what, left, c.left, d.Queue())
		}
		lies := files(d)
		wantTold(t, what+", again", opened(t, d, "w", 10), c.told)
		if files(d) != lies {
			t.Errorf("%s: tidied up twice", what)
		}
		for name, b := range c.files { // what is left is just a beginning of what lay there
			if got, e := d.Read(name); e == api.OK && !strings.HasPrefix(string(b), string(got)) {
				t.Errorf("%s: %s was written to", what, name)
			}
		}
	}
}

func TestOpenIsCut(t *testing.T) { // P5.3
	for what, c := range littered() {
		for n := 0; ; n++ {
			d := laid(c.files)
			d.Arm(n)
			if l, e := Open(d, "w", 10); e == api.OK {
				wantTold(t, what, l, c.told)
				break
			} else if e != api.ErrDead || l != nil {
				t.Fatalf("%s: Open, cut at %d: %d", what, n, e)
			}
			for keep := range n + 2 {
				d := d.Twin()
				d.Crash(keep)
				wantTold(t, fmt.Sprintf("%s, cut at %d, %d kept", what, n, keep), opened(t, d, "w", 10), c.told)
			}
		}
	}
}

func TestOpenRemovesTheLastFirst(t *testing.T) { // P5.3
	lies := map[string][]byte{"w1": made(1, 0, "a"), "w8": made(8, 0), "w9": made(9, 0), "w10": made(10, 0), "w11": made(11, 0)}
	for what, c := range map[string]struct {
		first []byte
		gone  []string
		trims bool
	}{
		"behind a gap":       {made(1, 0, "a"), []string{"w11", "w10", "w9", "w8"}, false},
		"behind a torn file": {made(1, 0, "a", "b")[:39], []string{"w11", "w10", "w9", "w8"}, true},
		"all of them":        {made(2, 0, "a"), []string{"w11", "w10", "w9", "w8", "w1"}, false},
	} {
		lies["w1"] = c.first
		for n := range c.gone {
			d := laid(lies)
			d.Arm(n)
			Open(d, "w", 10)
			d.Crash(-1)
			left := slices.DeleteFunc(slices.Sorted(maps.Keys(lies)), func(name string) bool { return slices.Contains(c.gone[:n+1], name) })
			if got := d.List(""); !slices.Equal(got, left) || d.Size("w1") < len(c.first) && n < 4 {
				t.Errorf("%s, cut at %d: %v, not %v", what, n, got, left)
			}
		}
		d := laid(lies)
		deeds := len(c.gone) + 1
		if c.trims {
			deeds++
		}
		d.Arm(deeds - 1)
		if _, e := Open(d, "w", 10); e != api.ErrDead || d.Queue() != deeds-1 {
			t.Errorf("%s: the last deed isn't a Flush: %d, queue %d", what, e, d.Queue())
		}
		d = laid(lies)
		d.Arm(deeds)
		if _, e := Open(d, "w", 10); e != api.OK {
			t.Errorf("%s: more than %d deeds", what, deeds)
		}
	}
}

func TestOpenFlushes(t *testing.T) { // P5.2: it is closed then, so it must be safe
	d := drive.New(1000)
	l := opened(t, d, "w", 100)
	appended(t, l, 0, "a", "b")
	opened(t, d, "w", 100)
	d.Crash(0)
	wantTold(t, "opened twice", opened(t, d, "w", 100), `first 0 next 2 closed 2 spans [{0 2}] records ["a" "b"] 0`)
}

func TestEveryByteChanged(t *testing.T) { // P5.5
	lies := map[string][]byte{"w1": made(1, 0, "a", "", strings.Repeat("b", 300)), "w2": made(2, 3, "c", "d"), "w3": made(3, 5, "e")}
	for name, b := range lies {
		for at := range b {
			for _, by := range []byte{1, 128, 255} {
				spoilt := slices.Clone(b)
				spoilt[at] ^= by
				changed := maps.Clone(lies)
				changed[name] = spoilt
				l := opened(t, laid(changed), "w", 10)
				records, _ := parity.OpenAll(b[:at]) // those that end ahead of the change
				ahead := map[string]int{"w1": 0, "w2": 3, "w3": 5}[name] + max(len(records)-1, 0)
				got, e := l.Records(0, l.Next())
				all := texts("a", "", strings.Repeat("b", 300), "c", "d", "e")
				if e != api.OK || int(l.Next()) != ahead || fmt.Sprintf("%q", got) != fmt.Sprintf("%q", all[:ahead]) {
					t.Fatalf("byte %d of %s changed by %d: %d records, not %d", at, name, by, l.Next(), ahead)
				}
			}
		}
	}
}

// journalModel is a journal by the chapter's words: its files with their records, and what of it is surely safe.
type journalModel struct {
	records []string // from the index 0 on, those that were dropped too
	starts  []int    // at which index each file begins that isn't dropped
	sizes   []int
	safe    int          // so many records are safe
	firsts  map[int]bool // where a crash may have the journal begin
	serial  uint64
	closed  bool
	most    int
}

func (m *journalModel) append(records ...string) {
	n := len(m.starts)
	if n == 0 || m.sizes[n-1] >= m.most || m.closed && m.starts[n-1] < len(m.records) {
		m.serial++
		m.starts, m.sizes = append(m.starts, len(m.records)), append(m.sizes, len(made(m.serial, uint64(len(m.records)))))
		n++
	}
	for _, r := range records {
		m.sizes[n-1] += parity.Sealed(len(r))
	}
	m.records, m.closed = append(m.records, records...), false
}

func (m *journalModel) flush() {
	m.safe, m.firsts = len(m.records), map[int]bool{m.first(): true}
}

func (m *journalModel) drop(below int) {
	for len(m.starts) > 1 && m.starts[1] <= below {
		m.starts, m.sizes = m.starts[1:], m.sizes[1:]
		m.firsts[m.first()] = true
	}
}

func (m *journalModel) first() int {
	if len(m.starts) == 0 {
		return 0
	}
	return m.starts[0]
}

func (m *journalModel) told() string {
	spans := []Span{}
	for i, from := range m.starts {
		to := len(m.records)
		if i+1 < len(m.starts) {
			to = m.starts[i+1]
		}
		spans = append(spans, Span{uint64(from), uint64(to)})
	}
	closed := len(m.records)
	if !m.closed && len(spans) > 0 {
		closed = m.starts[len(m.starts)-1]
	}
	return fmt.Sprintf("first %d next %d closed %d spans %v records %q 0", m.first(), len(m.records), closed, spans, m.records[m.first():])
}

// settle takes over what a crash left, if it may be so.
func (m *journalModel) settle(t *testing.T, d *drive.Drive, l *Log) {
	t.Helper()
	first, next := int(l.First()), int(l.Next())
	records, e := l.Records(l.First(), l.Next())
	if e != api.OK || next < m.safe || next > len(m.records) || next > 0 && !m.firsts[first] {
		t.Fatalf("behind a crash: %s, safe %d, appended %d, may begin at %v", told(l), m.safe, len(m.records), m.firsts)
	}
	if fmt.Sprintf("%q", records) != fmt.Sprintf("%q", texts(m.records[first:next]...)) {
		t.Fatalf("behind a crash: %q, not %q", records, m.records[first:next])
	}
	m.records, m.starts, m.sizes = m.records[:next], nil, nil
	m.serial = 0
	for i, s := range l.Spans() {
		m.starts = append(m.starts, int(s.From))
		name := l.name(l.files[i].serial)
		m.sizes, m.serial = append(m.sizes, d.Size(name)), l.files[i].serial
	}
	m.closed = true
	m.flush()
}

func TestScripts(t *testing.T) { // P5.1, P5.2, P5.3
	for seed := range int64(150) {
		random := rand.New(rand.NewSource(seed))
		most := []int{-1, 1, 30, 60, 200, 1000}[random.Intn(6)]
		d := drive.New(1 << 20)
		m := &journalModel{most: max(most, 1), firsts: map[int]bool{0: true}, closed: true}
		l := opened(t, d, "w.", most)
		count := 0
		for range 60 {
			if random.Intn(8) == 0 {
				d.Arm(random.Intn(3))
			}
			e := api.OK
			switch random.Intn(8) {
			case 0, 1, 2, 3:
				var records []string
				for range random.Intn(4) {
					count++
					records = append(records, strings.Repeat(fmt.Sprint(count, "."), random.Intn(9)))
				}
				ahead := m.told()
				_, e = l.Append(texts(records...)...)
				if e == api.ErrDead {
					wantModel(t, l, ahead)
				}
				if len(records) > 0 {
					m.append(records...)
				}
			case 4:
				if e = l.Flush(); e == api.OK {
					m.flush()
				}
			case 5:
				if e = l.Close(); e == api.OK {
					m.flush()
					m.closed = true
				}
			case 6:
				below := random.Intn(len(m.records) + 3)
				e = l.Drop(uint64(below))
				m.drop(below)
			case 7:
				everyCrash(t, d, m, random)
				if random.Intn(2) == 0 {
					e = api.ErrDead // a crash out of the blue
				} else if l, e = Open(d, "w.", most); e == api.OK {
					m.flush()
					m.closed = true
				}
			}
			if e == api.OK {
				wantModel(t, l, m.told())
				continue
			}
			if e != api.ErrDead {
				t.Fatalf("seed %d: %d", seed, e)
			}
			everyCrash(t, d, m, random)
			d.Crash(random.Int())
			l = openedAtLast(t, d, most, random)
			m.settle(t, d, l)
		}
	}
}

// wantModel holds a journal, whose drive may have died, against what a model said.
func wantModel(t *testing.T, l *Log, said string) {
	t.Helper()
	got := told(l)
	if l.Dead() {
		got, _, _ = strings.Cut(got, " records")
		said, _, _ = strings.Cut(said, " records")
	}
	if got != said {
		t.Fatalf("%s\nnot %s", got, said)
	}
}

// everyCrash looks at what some crashes of the drive leave.
func everyCrash(t *testing.T, d *drive.Drive, m *journalModel, random *rand.Rand) {
	t.Helper()
	for range 12 {
		twin, other := d.Twin(), *m
		twin.Crash(random.Int())
		other.settle(t, twin, opened(t, twin, "w.", m.most))
	}
}

// openedAtLast opens a journal behind openings that are cut.
func openedAtLast(t *testing.T, d *drive.Drive, most int, random *rand.Rand) *Log {
	t.Helper()
	whole := told(opened(t, d.Twin(), "w.", most))
	for range random.Intn(3) {
		d.Arm(random.Intn(2))
		Open(d, "w.", most)
		d.Crash(random.Int())
	}
	l := opened(t, d, "w.", most)
	wantTold(t, "opened at last", l, whole)
	return l
}
