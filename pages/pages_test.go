package pages_test

import (
	"bytes"
	"math"
	"slices"
	"strings"
	"testing"

	"groyne/api"
	"groyne/drive"
	"groyne/pack"
	"groyne/pages"
	"groyne/parity"
)

const prefix = "p/"

func page(c byte) []byte { return bytes.Repeat([]byte{c}, api.PageSize) }

// opened is the pool on a drive that is known to have one, or nothing.
func opened(t *testing.T, d *drive.Drive, hand int) (*pages.Pool, []byte) {
	t.Helper()
	p, note, e := pages.Open(d, prefix, hand)
	if e != api.OK || p == nil {
		t.Fatalf("Open: %v, %v", p, e)
	}
	return p, note
}

// laid is a pool with a page of each letter, the first one 0.
func laid(t *testing.T, d *drive.Drive, hand int, letters string) *pages.Pool {
	t.Helper()
	p, _ := opened(t, d, hand)
	for i := range letters {
		id, e := p.Alloc()
		if e != api.OK || id != i {
			t.Fatalf("Alloc = %d, %v", id, e)
		}
		put(t, p, id, letters[i])
	}
	return p
}

func put(t *testing.T, p *pages.Pool, id int, c byte) {
	t.Helper()
	if e := p.Put(id, page(c)); e != api.OK {
		t.Fatalf("Put(%d): %v", id, e)
	}
}

func save(t *testing.T, p *pages.Pool, note string) {
	t.Helper()
	if e := p.Save([]byte(note)); e != api.OK {
		t.Fatalf("Save: %v", e)
	}
}

// content tells a pool's pages as letters: - for a number without a page, ? for a page that isn't all one letter.
func content(p *pages.Pool) string {
	out := ""
	for _, id := range p.Ids() {
		out += strings.Repeat("-", id-len(out))
		b, e := p.Get(id)
		switch {
		case e != api.OK || !bytes.Equal(b, page(b[0])):
			out += "?"
		case b[0] == 0:
			out += "0"
		default:
			out += string(rune(b[0]))
		}
	}
	return out
}

func want(t *testing.T, p *pages.Pool, letters string) {
	t.Helper()
	if got := content(p); got != letters || p.Count() != len(letters)-strings.Count(letters, "-") {
		t.Errorf("pages %q, %d of them, want %q", got, p.Count(), letters)
	}
}

func TestExamples(t *testing.T) { // P7.1, P7.2
	d := drive.New(1 << 16)
	p, note := opened(t, d, 2)
	if len(note) != 0 || p.Count() != 0 || len(p.Ids()) != 0 {
		t.Errorf("an empty one: %q, %v", note, p.Ids())
	}
	for _, step := range []int{0, 1} {
		if id, e := p.Alloc(); id != step || e != api.OK {
			t.Errorf("Alloc = %d, %v, want %d", id, e, step)
		}
	}
	if e := p.Free(0); e != api.OK {
		t.Errorf("Free: %v", e)
	}
	if id, e := p.Alloc(); id != 0 || e != api.OK {
		t.Errorf("Alloc behind Free = %d, %v", id, e)
	}
	if b, e := p.Get(5); len(b) != 0 || e != api.ErrArg {
		t.Errorf("Get(5): %v", e)
	}
	if e := p.Put(0, page(1)[1:]); e != api.ErrSize {
		t.Errorf("Put of 511 bytes: %v", e)
	}
	put(t, p, 0, 'a')
	save(t, p, "n")
	put(t, p, 0, 'b')
	q, note := opened(t, d, 2)
	if string(note) != "n" {
		t.Errorf("note %q", note)
	}
	want(t, q, "a0")
}

func TestWrongCalls(t *testing.T) { // P7.1
	p := laid(t, drive.New(1<<16), 2, "abc")
	p.Free(1)
	for _, id := range []int{-1, 1, 3, 65536, math.MaxInt, math.MinInt} {
		if _, e := p.Get(id); e != api.ErrArg {
			t.Errorf("Get(%d): %v", id, e)
		}
		if e := p.Put(id, page('x')); e != api.ErrArg {
			t.Errorf("Put(%d): %v", id, e)
		}
		if e := p.Put(id, nil); e != api.ErrArg {
			t.Errorf("Put(%d) of nothing: %v", id, e)
		}
		if e := p.Free(id); e != api.ErrArg {
			t.Errorf("Free(%d): %v", id, e)
		}
	}
	for _, size := range []int{0, 1, 511, 513, 5000} {
		if e := p.Put(0, make([]byte, size)); e != api.ErrSize {
			t.Errorf("Put of %d bytes: %v", size, e)
		}
	}
	want(t, p, "a-c")
}

func TestLeastNumber(t *testing.T) { // P7.1
	p := laid(t, drive.New(1<<16), 3, "abcdef")
	for _, id := range []int{4, 1, 3} {
		p.Free(id)
	}
	want(t, p, "a-c--f")
	if !slices.Equal(p.Ids(), []int{0, 2, 5}) {
		t.Errorf("Ids = %v", p.Ids())
	}
	for _, least := range []int{1, 3, 4, 6, 7} {
		if id, e := p.Alloc(); id != least || e != api.OK {
			t.Errorf("Alloc = %d, %v, want %d", id, e, least)
		}
	}
	want(t, p, "a0c00f00")
}

func TestAllNumbers(t *testing.T) { // P7.1, P7.2
	d := drive.New(1 << 20)
	p, _ := opened(t, d, 4)
	for want := range 65536 {
		if id, e := p.Alloc(); id != want || e != api.OK {
			t.Fatalf("Alloc = %d, %v, want %d", id, e, want)
		}
	}
	if id, e := p.Alloc(); id != 0 || e != api.ErrSize {
		t.Errorf("a page too many: %d, %v", id, e)
	}
	put(t, p, 65535, 'z')
	save(t, p, "")
	q, _ := opened(t, d, 1)
	if _, e := q.Alloc(); e != api.ErrSize || q.Count() != 65536 {
		t.Errorf("a page too many behind Open: %v, %d pages", e, q.Count())
	}
	if b, e := q.Get(65535); e != api.OK || !bytes.Equal(b, page('z')) {
		t.Errorf("the last page: %v", e)
	}
	for id := range 65535 {
		q.Free(id + 1)
	}
	if id, e := q.Alloc(); id != 1 || e != api.OK {
		t.Errorf("Alloc = %d, %v", id, e)
	}
	save(t, q, "")
	if used := d.Used(); used > 100 {
		t.Errorf("two pages of noughts need %d bytes", used)
	}
}

func TestHand(t *testing.T) { // P7.1
	for _, hand := range []int{math.MinInt, -1, 0, 1, 2, 3, 6, 7, math.MaxInt} {
		most := max(hand, 1)
		p := laid(t, drive.New(1<<16), hand, "abcdef")
		gets := 0
		for i := range 100 {
			if id := i * 5 % 7; id < 6 {
				if b, e := p.Get(id); e != api.OK || b[0] != byte('a'+id) {
					t.Fatalf("hand %d: Get(%d): %v", hand, id, e)
				}
				gets++
			}
			p.Get(77)
			if p.Hand() < 1 || p.Hand() > most {
				t.Fatalf("hand %d: %d at hand", hand, p.Hand())
			}
		}
		s := p.Stats()
		if s.Hits+s.Misses != gets {
			t.Errorf("hand %d: %v of %d Gets", hand, s, gets)
		}
		if hand >= 6 && (s.Evicted != 0 || s.Hits != gets) {
			t.Errorf("hand %d: %v, though all pages are at hand", hand, s)
		}
		if hand < 6 && (s.Evicted < 6-most || s.Misses == 0) {
			t.Errorf("hand %d: %v", hand, s)
		}
	}
}

func TestCounts(t *testing.T) { // P7.1
	d := drive.New(1 << 16)
	save(t, laid(t, d, 1, "abc"), "")
	p, _ := opened(t, d, 2)
	step := func(id int, want pages.Stats, hand int) {
		t.Helper()
		if _, e := p.Get(id); e != api.OK || p.Stats() != want || p.Hand() != hand {
			t.Errorf("Get(%d): %v, %v, %d at hand; want %v, %d", id, e, p.Stats(), p.Hand(), want, hand)
		}
	}
	if p.Stats() != (pages.Stats{}) || p.Hand() != 0 {
		t.Errorf("in the beginning: %v, %d", p.Stats(), p.Hand())
	}
	step(0, pages.Stats{Misses: 1}, 1)
	step(0, pages.Stats{Hits: 1, Misses: 1}, 1)
	step(1, pages.Stats{Hits: 1, Misses: 2}, 2)
	step(0, pages.Stats{Hits: 2, Misses: 2}, 2)
	step(2, pages.Stats{Hits: 2, Misses: 3, Evicted: 1}, 2) // the page 1 goes, which was asked for earlier
	step(0, pages.Stats{Hits: 3, Misses: 3, Evicted: 1}, 2)
	step(1, pages.Stats{Hits: 3, Misses: 4, Evicted: 2}, 2)
	p.Free(1)
	if p.Hand() != 1 || p.Stats().Evicted != 2 {
		t.Errorf("a page that was freed: %d at hand, %v", p.Hand(), p.Stats())
	}
	put(t, p, 2, 'z')
	if p.Stats() != (pages.Stats{Hits: 3, Misses: 4, Evicted: 2}) || p.Hand() != 2 {
		t.Errorf("Put counts: %v, %d at hand", p.Stats(), p.Hand())
	}
}

func TestOpenWritesNothing(t *testing.T) { // P7.2
	d := drive.New(0)
	d.Arm(0)
	p, _ := opened(t, d, 3)
	p.Alloc()
	want(t, p, "0")
	if d.Queue() != 0 || len(d.List("")) != 0 || d.Dead() {
		t.Errorf("an empty pool: %d operations, files %v", d.Queue(), d.List(""))
	}
	d = drive.New(1 << 16)
	save(t, laid(t, d, 1, "abc"), "n")
	d.Flush()
	d.Arm(0)
	p, _ = opened(t, d, 3)
	want(t, p, "abc")
	if d.Queue() != 0 || d.Dead() {
		t.Errorf("a pool that was saved: %d operations", d.Queue())
	}
}

func TestOpenedAgain(t *testing.T) { // P7.2
	d := drive.New(1 << 22)
	long := strings.Repeat("long ", 500000)
	for _, hand := range []int{1, 2, 9} {
		d.Wipe()
		p := laid(t, d, hand, "abcde")
		q, note := opened(t, d, hand)
		if q.Count() != 0 || len(note) != 0 {
			t.Errorf("never saved: %d pages, note %q", q.Count(), note)
		}
		p = laid(t, d, hand, "abcde")
		save(t, p, long)
		p.Free(2)
		put(t, p, 0, 'x')
		put(t, p, 1, 'y')
		p.Alloc()
		p.Get(3)
		q, note = opened(t, d, hand)
		if string(note) != long {
			t.Errorf("a long note: %d bytes", len(note))
		}
		want(t, q, "abcde")
		q.Free(4)
		q.Free(1)
		put(t, q, 2, 'z')
		save(t, q, "")
		p, note = opened(t, d, hand)
		if len(note) != 0 {
			t.Errorf("the note is gone: %q", note)
		}
		want(t, p, "a-zd")
		for _, id := range p.Ids() {
			p.Free(id)
		}
		save(t, p, "empty")
		p, note = opened(t, d, hand)
		if string(note) != "empty" || p.Count() != 0 {
			t.Errorf("without pages: %q, %v", note, p.Ids())
		}
	}
}

func TestFiles(t *testing.T) { // P7.1: the prefix
	d := drive.New(1 << 16)
	strangers := []string{"other", "p", prefix + "stranger"}
	for _, name := range []string{"", "a", "00a", "-1a", "+1a", "65536b", "1c", "1", "1aa", "99999999999999999999a"} {
		strangers = append(strangers, prefix+"page."+name)
	}
	for _, name := range strangers {
		d.Append(name, []byte("left alone: "+name))
	}
	one, _, _ := pages.Open(d, prefix, 1)
	two, _, _ := pages.Open(d, "q", 1)
	for i := range 3 {
		one.Alloc()
		two.Alloc()
		put(t, one, i, byte('a'+i))
		put(t, two, i, byte('x'+i))
	}
	save(t, one, "1")
	save(t, two, "2")
	one.Free(1)
	save(t, one, "3")
	want(t, one, "a-c")
	want(t, two, "xyz")
	for _, name := range d.List("") {
		if !strings.HasPrefix(name, prefix) && !strings.HasPrefix(name, "q") && !slices.Contains(strangers, name) {
			t.Errorf("a file %q", name)
		}
	}
	for _, name := range strangers {
		if b, e := d.Read(name); string(b) != "left alone: "+name || e != api.OK {
			t.Errorf("%q: %q, %v", name, b, e)
		}
	}
}

func TestNotAPool(t *testing.T) { // P7.2: ErrForm
	d := drive.New(1 << 18)
	p := laid(t, d, 2, "abc")
	p.Alloc()
	save(t, p, "note")
	put(t, p, 1, 'y')
	save(t, p, "note")
	d.Flush()
	refused := func(how string, spoilt *drive.Drive) {
		t.Helper()
		if p, note, e := pages.Open(spoilt, prefix, 2); e != api.ErrForm || p != nil || note != nil {
			t.Errorf("%s: %v", how, e)
		}
	}
	for _, name := range d.List(prefix) {
		b, _ := d.Read(name)
		for at := range b {
			spoilt := d.Twin()
			spoilt.Write(name, at, []byte{b[at] ^ 0x41})
			refused("a changed byte of "+name, spoilt)
		}
		cut := d.Twin()
		cut.Trim(name, len(b)-1)
		refused("cut: "+name, cut)
		bare := d.Twin()
		bare.Trim(name, 0)
		refused("without bytes: "+name, bare)
		if len(b) == 532 {
			gone := d.Twin()
			gone.Remove(name)
			refused("gone: "+name, gone)
			for _, size := range []int{0, 511, 513} {
				other := d.Twin()
				record, _ := parity.Seal(make([]byte, size))
				drive.Replace(other, name, record)
				refused("another record in "+name, other)
			}
		}
	}
	for how, index := range map[string][]byte{
		"no list":            nil,
		"one list":           pack.Join(nil)[1:],
		"three lists":        pack.Join(nil, nil, nil)[1:],
		"no such page":       pack.Join([]byte{2, 3, 2, 1, 2}, nil)[1:],
		"no such side":       pack.Join([]byte{2, 4, 2, 1}, nil)[1:],
		"far from any side":  pack.Join([]byte{2, 255, 2, 1}, nil)[1:],
		"too many numbers":   pack.Join(bytes.Repeat([]byte{1}, 65537), nil)[1:],
		"no numbers to skip": pack.Join(make([]byte, 65537), nil)[1:],
	} {
		other := d.Twin()
		if e := drive.Replace(other, prefix+"index", parity.Wrap(index)); e != api.OK {
			t.Fatal(e)
		}
		refused(how, other)
	}
}

func TestDeadDrive(t *testing.T) { // P7.3
	d := drive.New(1 << 16)
	p := laid(t, d, 9, "abc")
	save(t, p, "note")
	d.Arm(0)
	d.Flush()
	if q, note, e := pages.Open(d, prefix, 1); q != nil || note != nil || e != api.ErrDead {
		t.Errorf("Open: %v", e)
	}
	stats := p.Stats()
	for id, least := range map[int]api.Errno{0: api.ErrDead, 7: api.ErrArg, -1: api.ErrArg} {
		if b, e := p.Get(id); len(b) != 0 || e != least {
			t.Errorf("Get(%d): %v", id, e)
		}
		if e := p.Put(id, page('x')); e != least {
			t.Errorf("Put(%d): %v", id, e)
		}
	}
	if e := p.Put(0, nil); e != api.ErrSize {
		t.Errorf("Put of nothing: %v", e)
	}
	if e := p.Save(nil); e != api.ErrDead {
		t.Errorf("Save: %v", e)
	}
	if p.Stats() != stats || p.Count() != 3 || p.Hand() != 3 {
		t.Errorf("changed: %v, %d pages, %d at hand", p.Stats(), p.Count(), p.Hand())
	}
	if id, e := p.Alloc(); id != 3 || e != api.OK {
		t.Errorf("Alloc needs no drive: %d, %v", id, e)
	}
	if e := p.Free(0); e != api.OK {
		t.Errorf("Free needs no drive: %v", e)
	}
}

func TestDiesPuttingAway(t *testing.T) { // P7.3
	for _, call := range []func(*pages.Pool) api.Errno{
		func(p *pages.Pool) api.Errno { b, e := p.Get(0); _ = b[:0:0]; return e },
		func(p *pages.Pool) api.Errno { return p.Put(0, page('x')) },
	} {
		d := drive.New(1 << 16)
		p := laid(t, d, 2, "abc")
		stats, hand := p.Stats(), p.Hand()
		d.Arm(0)
		if e := call(p); e != api.ErrDead || !d.Dead() {
			t.Errorf("the drive dies: %v", e)
		}
		if p.Stats() != stats || p.Hand() != hand {
			t.Errorf("changed: %v, %d at hand", p.Stats(), p.Hand())
		}
	}
}

func TestMemory(t *testing.T) { // P7.5
	d := drive.New(1 << 16)
	p := laid(t, d, 2, "abc")
	mine := append(page('x'), "spare"...)
	if e := p.Put(0, mine[:api.PageSize]); e != api.OK {
		t.Fatal(e)
	}
	note := []byte("note, spare")
	if e := p.Save(note[:4]); e != api.OK {
		t.Fatal(e)
	}
	if string(mine[api.PageSize-1:]) != "xspare" || string(note) != "note, spare" {
		t.Errorf("what was handed in has changed")
	}
	clear(mine)
	clear(note)
	one, _ := p.Get(0)
	clear(one[:cap(one)])
	two, _ := p.Get(0)
	if !bytes.Equal(two, page('x')) {
		t.Errorf("a page changed from without")
	}
	ids := p.Ids()
	clear(ids[:cap(ids)])
	want(t, p, "xbc")
	q, note := opened(t, d, 2)
	if string(note) != "note" {
		t.Errorf("the note changed from without: %q", note)
	}
	clear(note[:cap(note)])
	want(t, q, "xbc")
	if _, note := opened(t, d, 2); string(note) != "note" {
		t.Errorf("the note changed from without: %q", note)
	}
}
