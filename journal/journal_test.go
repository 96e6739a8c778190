package journal

import (
	"bytes"
	"fmt"
	"math"
	"slices"
	"strings"
	"testing"

	"groyne/api"
	"groyne/drive"
	"groyne/pack"
	"groyne/parity"
)

func text(s string) []byte { return []byte(s) }

func texts(list ...string) [][]byte {
	var all [][]byte
	for _, s := range list {
		all = append(all, text(s))
	}
	return all
}

// made answers the bytes of a file: its head, and its records.
func made(serial, from uint64, records ...string) []byte {
	b, _ := parity.Seal(pack.Number(serial, from))
	for _, r := range records {
		sealed, _ := parity.Seal(text(r))
		b = append(b, sealed...)
	}
	return b
}

// laid answers a drive with the files, safely.
func laid(files map[string][]byte) *drive.Drive {
	d := drive.New(1 << 22)
	for name, b := range files {
		d.Append(name, b)
	}
	d.Flush()
	return d
}

// files answers all that a drive has, as one text.
func files(d *drive.Drive) string {
	out := ""
	for _, name := range d.List("") {
		b, e := d.Read(name)
		out += fmt.Sprintf("%q %v %d\n", name, b, e)
	}
	return out
}

// told answers all that a journal says of itself.
func told(l *Log) string {
	records, e := l.Records(l.First(), l.Next())
	return fmt.Sprintf("first %d next %d closed %d spans %v records %q %d", l.First(), l.Next(), l.Closed(), l.Spans(), records, e)
}

func want(t *testing.T, what string, got, want api.Errno) {
	t.Helper()
	if got != want {
		t.Errorf("%s = %d, not %d", what, got, want)
	}
}

func opened(t *testing.T, d *drive.Drive, prefix string, most int) *Log {
	t.Helper()
	l, e := Open(d, prefix, most)
	if e != api.OK {
		t.Fatalf("Open = %d", e)
	}
	return l
}

func appended(t *testing.T, l *Log, at uint64, records ...string) {
	t.Helper()
	if got, e := l.Append(texts(records...)...); got != at || e != api.OK {
		t.Errorf("Append(%q) = %d, %d, not %d", records, got, e, at)
	}
}

func wantTold(t *testing.T, what string, l *Log, want string) {
	t.Helper()
	if got := told(l); got != want {
		t.Errorf("%s: %s\nnot %s", what, got, want)
	}
}

func TestExamples(t *testing.T) { // P5.1, P5.2
	d := drive.New(1 << 16)
	l := opened(t, d, "w.", 1000)
	wantTold(t, "an empty drive", l, `first 0 next 0 closed 0 spans [] records [] 0`)
	appended(t, l, 0, "a", "b")
	appended(t, l, 2, "c")
	wantTold(t, "two appends", l, `first 0 next 3 closed 0 spans [{0 3}] records ["a" "b" "c"] 0`)
	l = opened(t, d, "w.", 1000)
	wantTold(t, "opened again", l, `first 0 next 3 closed 3 spans [{0 3}] records ["a" "b" "c"] 0`)
	if b, e := l.Records(1, 3); e != api.OK || !slices.EqualFunc(b, texts("b", "c"), bytes.Equal) {
		t.Errorf("Records(1, 3) = %q, %d", b, e)
	}
	appended(t, l, 3, "d")
	wantTold(t, "a second file", l, `first 0 next 4 closed 3 spans [{0 3} {3 4}] records ["a" "b" "c" "d"] 0`)
	if got, want := files(d), files(laid(map[string][]byte{"w.1": made(1, 0, "a", "b", "c"), "w.2": made(2, 3, "d")})); got != want {
		t.Errorf("the files:\n%snot\n%s", got, want)
	}

	l, e := Begin(drive.New(1000), "x", 1000, 9)
	want(t, "Begin", e, api.OK)
	wantTold(t, "begun", l, `first 9 next 9 closed 9 spans [{9 9}] records [] 0`)
	appended(t, l, 9, "a")
	wantTold(t, "the first record", l, `first 9 next 10 closed 9 spans [{9 10}] records ["a"] 0`)

	d = drive.New(1000)
	l = opened(t, d, "", 1000)
	appended(t, l, 0, "a")
	want(t, "Flush", l.Flush(), api.OK)
	appended(t, l, 1, "b")
	d.Crash(0)
	wantTold(t, "example 3", opened(t, d, "", 1000), `first 0 next 1 closed 1 spans [{0 1}] records ["a"] 0`)
}

func TestFull(t *testing.T) { // P5.1
	size := len(made(1, 0, "a"))
	for most, spans := range map[int]string{
		math.MinInt: "[{0 1} {1 3} {3 4}]", 0: "[{0 1} {1 3} {3 4}]", 1: "[{0 1} {1 3} {3 4}]",
		size: "[{0 1} {1 3} {3 4}]", size + 1: "[{0 3} {3 4}]", // it is full when it has as many bytes, not ahead of it
		len(made(1, 0, "a", "b", "c")): "[{0 3} {3 4}]", len(made(1, 0, "a", "b", "c")) + 1: "[{0 4}]", math.MaxInt: "[{0 4}]",
	} {
		d := drive.New(1000)
		l := opened(t, d, "w", most)
		appended(t, l, 0, "a")
		appended(t, l, 1, "b", "c")
		if at, e := l.Append(); at != 3 || e != api.OK {
			t.Errorf("Append() = %d, %d", at, e)
		}
		appended(t, l, 3, "d")
		last := l.Spans()[len(l.Spans())-1].From
		wantTold(t, fmt.Sprintf("most %d", most), l, fmt.Sprintf(`first 0 next 4 closed %d spans %s records ["a" "b" "c" "d"] 0`, last, spans))
		wantTold(t, "opened again", opened(t, d, "w", most), fmt.Sprintf(`first 0 next 4 closed 4 spans %s records ["a" "b" "c" "d"] 0`, spans))
	}
}

func TestOneAppendOfTheDrive(t *testing.T) { // P5.1
	d := drive.New(1000)
	l := opened(t, d, "w", 40)
	for i, records := range [][]string{{"a", "b", "c"}, {"d"}, {"", "e"}} {
		ahead := d.Queue()
		appended(t, l, l.Next(), records...)
		if d.Queue() != ahead+1 {
			t.Errorf("Append %d was %d operations", i, d.Queue()-ahead)
		}
	}
	ahead, said := files(d), told(l)
	if at, e := l.Append(); at != 6 || e != api.OK || files(d) != ahead || told(l) != said {
		t.Errorf("Append of none = %d, %d: %s", at, e, told(l))
	}
}

func TestBegin(t *testing.T) { // P5.1
	for _, at := range []uint64{0, 9, 1 << 40, math.MaxUint64} {
		d := drive.New(1000)
		l, e := Begin(d, "w", 1000, at)
		want(t, "Begin", e, api.OK)
		if d.Queue() != 0 || l.First() != at || l.Next() != at || l.Closed() != at || !slices.Equal(l.Spans(), []Span{{at, at}}) {
			t.Errorf("begun at %d: %s", at, told(l))
		}
		d.Crash(0)
		l = opened(t, d, "w", 1000)
		if l.First() != at || l.Next() != at || l.Closed() != at || !slices.Equal(l.Spans(), []Span{{at, at}}) {
			t.Errorf("begun at %d, opened again: %s", at, told(l))
		}
		appended(t, l, at, "a") // closed, but without records
		if got, want := files(d), files(laid(map[string][]byte{"w1": made(1, at, "a")})); got != want {
			t.Errorf("begun at %d: %snot %s", at, got, want)
		}
	}
	d := drive.New(1000)
	l, _ := Begin(d, "w", 1, 9) // its head alone fills it
	appended(t, l, 9, "a")
	wantTold(t, "begun with a full file", l, `first 9 next 10 closed 9 spans [{9 9} {9 10}] records ["a"] 0`)
	wantTold(t, "opened again", opened(t, d, "w", 1), `first 9 next 10 closed 10 spans [{9 9} {9 10}] records ["a"] 0`)
	d = drive.New(1000)
	l, _ = Begin(d, "w", len(made(1, 9))+1, 9)
	appended(t, l, 9, "a")
	wantTold(t, "begun with a file that isn't full", l, `first 9 next 10 closed 9 spans [{9 10}] records ["a"] 0`)
}

func TestBeginErrors(t *testing.T) { // P5.1
	for name, e := range map[string]api.Errno{
		"w1": api.ErrThere, "w2": api.ErrThere, "w10": api.ErrThere, "w18446744073709551616": api.ErrThere,
		"w": api.OK, "w0": api.OK, "w01": api.OK, "w1~": api.OK, "w-1": api.OK, "w+1": api.OK, "w 1": api.OK, "w1.": api.OK, "w٣": api.OK, "1": api.OK, "v1": api.OK, "W1": api.OK,
	} {
		d := drive.New(100)
		d.Append(name, text("x"))
		ahead := files(d)
		l, got := Begin(d, "w", 10, 9)
		want(t, "Begin beside "+name, got, e)
		if e != api.OK && (l != nil || files(d) != ahead || d.Queue() != 1) {
			t.Errorf("Begin beside %s changed something: %s", name, files(d))
		}
	}
	size := len(made(1, 9))
	for room := range size {
		d := drive.New(room)
		if l, e := Begin(d, "w", 10, 9); l != nil || e != api.ErrFull || d.Queue() != 0 || len(d.List("")) != 0 {
			t.Errorf("Begin with a room of %d: %d", room, e)
		}
	}
	if _, e := Begin(drive.New(size), "w", 10, 9); e != api.OK {
		t.Errorf("Begin with just the room: %d", e)
	}
	for n := range 2 {
		d := drive.New(100)
		d.Arm(n)
		if l, e := Begin(d, "w", 10, 9); l != nil || e != api.ErrDead {
			t.Errorf("Begin, cut at %d: %d", n, e)
		}
		if l, e := Begin(d, "w", 10, 9); l != nil || e != api.ErrDead {
			t.Errorf("Begin on a dead drive: %d", e)
		}
		if l, e := Open(d, "w", 10); l != nil || e != api.ErrDead {
			t.Errorf("Open on a dead drive: %d", e)
		}
	}
	d := drive.New(100)
	d.Arm(2)
	if l, e := Begin(d, "w", 10, 9); l == nil || e != api.OK || d.Queue() != 0 {
		t.Errorf("Begin is an Append and a Flush: %d", e)
	}
}

func TestClose(t *testing.T) { // P5.1
	d := drive.New(1000)
	l := opened(t, d, "w", 1000)
	want(t, "Close of none", l.Close(), api.OK)
	appended(t, l, 0, "a", "b")
	appended(t, l, 2, "c")
	if l.Closed() != 0 {
		t.Errorf("not closed: Closed = %d", l.Closed())
	}
	d.Arm(0)
	want(t, "Close that dies", l.Close(), api.ErrDead)
	if l.Closed() != 0 {
		t.Errorf("Close that dies: Closed = %d", l.Closed())
	}
	d.Crash(-1)
	l = opened(t, d, "w", 1000)
	appended(t, l, 3, "d")
	want(t, "Close", l.Close(), api.OK)
	if d.Queue() != 0 || l.Closed() != 4 {
		t.Errorf("Close: queue %d, Closed %d", d.Queue(), l.Closed())
	}
	if at, e := l.Append(); at != 4 || e != api.OK || l.Closed() != 4 {
		t.Errorf("Append of none: %d, %d, Closed %d", at, e, l.Closed())
	}
	if at, e := l.Append(make([]byte, api.MaxRecord+1)); at != 0 || e != api.ErrSize || l.Closed() != 4 {
		t.Errorf("Append of too much: %d, %d, Closed %d", at, e, l.Closed())
	}
	appended(t, l, 4, "e")
	appended(t, l, 5, "f")
	wantTold(t, "behind it", l, `first 0 next 6 closed 4 spans [{0 3} {3 4} {4 6}] records ["a" "b" "c" "d" "e" "f"] 0`)
	want(t, "Flush", l.Flush(), api.OK) // no Close
	appended(t, l, 6, "g")
	wantTold(t, "behind a Flush", l, `first 0 next 7 closed 4 spans [{0 3} {3 4} {4 7}] records ["a" "b" "c" "d" "e" "f" "g"] 0`)
}

func TestRecords(t *testing.T) { // P5.1
	d := drive.New(1000)
	l, _ := Begin(d, "w", 50, 5)
	all := strings.Split("abcdefghijkl", "")
	for _, s := range all {
		appended(t, l, l.Next(), s)
	}
	if len(l.Spans()) < 4 {
		t.Fatalf("too few files: %s", told(l))
	}
	for from := range uint64(20) {
		for to := range uint64(20) {
			b, e := l.Records(from, to)
			if from > to || from < 5 || to > 17 {
				if e != api.ErrArg || b != nil {
					t.Errorf("Records(%d, %d) = %q, %d", from, to, b, e)
				}
				continue
			}
			if e != api.OK || !slices.EqualFunc(b, texts(all[from-5:to-5]...), bytes.Equal) {
				t.Errorf("Records(%d, %d) = %q, %d", from, to, b, e)
			}
		}
	}
	for _, c := range [][2]uint64{{0, math.MaxUint64}, {math.MaxUint64, 0}, {math.MaxUint64, math.MaxUint64}, {6, math.MaxUint64}} {
		if b, e := l.Records(c[0], c[1]); e != api.ErrArg || b != nil {
			t.Errorf("Records(%d, %d) = %q, %d", c[0], c[1], b, e)
		}
	}
	empty := opened(t, drive.New(0), "w", 1)
	if b, e := empty.Records(0, 0); e != api.OK || len(b) != 0 {
		t.Errorf("Records of none: %q, %d", b, e)
	}
	if b, e := empty.Records(0, 1); e != api.ErrArg || b != nil {
		t.Errorf("Records of none: %q, %d", b, e)
	}
	d.Arm(0)
	l.Flush()
	if b, e := l.Records(5, 9); e != api.ErrDead || b != nil {
		t.Errorf("Records of a dead drive: %q, %d", b, e)
	}
	if b, e := l.Records(4, 9); e != api.ErrArg || b != nil {
		t.Errorf("the least error: %q, %d", b, e)
	}
}

func TestDrop(t *testing.T) { // P5.1
	d := laid(map[string][]byte{"w3": made(3, 4, "a", "b"), "w4": made(4, 6), "w5": made(5, 6, "c"), "w6": made(6, 7, "d", "e"), "w7": made(7, 9, "f")})
	for below, left := range map[uint64]string{
		0: "[{4 6} {6 6} {6 7} {7 9} {9 10}]", 4: "[{4 6} {6 6} {6 7} {7 9} {9 10}]", 5: "[{4 6} {6 6} {6 7} {7 9} {9 10}]", 6: "[{6 7} {7 9} {9 10}]", 7: "[{7 9} {9 10}]",
		8: "[{7 9} {9 10}]", 9: "[{9 10}]", 10: "[{9 10}]", 99: "[{9 10}]", math.MaxUint64: "[{9 10}]",
	} {
		d := d.Twin()
		l := opened(t, d, "w", 100)
		want(t, "Drop", l.Drop(below), api.OK)
		if got := fmt.Sprint(l.Spans()); got != left || len(d.List("w")) != len(l.Spans()) || l.First() != l.Spans()[0].From || l.Next() != 10 {
			t.Errorf("Drop(%d): %s, not %s", below, told(l), left)
		}
		if _, e := l.Records(l.First()-1, 10); e != api.ErrArg {
			t.Errorf("Drop(%d): Records of what is gone: %d", below, e)
		}
		said := told(l)
		want(t, "Drop again", l.Drop(below), api.OK)
		wantTold(t, "Drop again", l, said)
		wantTold(t, "opened again", opened(t, d, "w", 100), said)
		appended(t, l, 10, "g")
		appended(t, l, 11, "h")
		if s := l.Spans(); s[len(s)-1] != (Span{10, 12}) || d.Size("w8") != len(made(8, 10, "g", "h")) {
			t.Errorf("Drop(%d), then Append: %s", below, told(l))
		}
	}
	want(t, "Drop of none", opened(t, drive.New(0), "w", 1).Drop(9), api.OK)
}

func TestDropIsCut(t *testing.T) { // P5.1, P5.2
	base := laid(map[string][]byte{"w9": made(9, 4, "a", "b"), "w10": made(10, 6, "c"), "w11": made(11, 7, "d"), "w12": made(12, 8, "e")})
	for n := range 3 {
		d := base.Twin()
		l := opened(t, d, "w", 100)
		said := fmt.Sprint(l.First(), l.Next(), l.Spans(), l.Closed())
		d.Arm(n)
		want(t, "Drop that dies", l.Drop(8), api.ErrDead)
		if got := fmt.Sprint(l.First(), l.Next(), l.Spans(), l.Closed()); got != said {
			t.Errorf("Drop that died changed something: %s, not %s", got, said)
		}
		for keep := range n + 2 {
			d := d.Twin()
			d.Crash(keep)
			first := []uint64{4, 6, 7, 8}[keep]
			if l := opened(t, d, "w", 100); l.First() != first || l.Next() != 9 || len(l.Spans()) != 4-keep {
				t.Errorf("Drop, cut at %d, %d kept: %s", n, keep, told(l))
			}
		}
	}
	d := base.Twin()
	l := opened(t, d, "w", 100)
	d.Arm(3)
	want(t, "Drop is three deeds", l.Drop(8), api.OK)
	d.Crash(0)
	if l := opened(t, d, "w", 100); l.First() != 4 {
		t.Errorf("Drop isn't safe of itself: %s", told(l))
	}
}

func TestAppendErrors(t *testing.T) { // P5.1, P5.4
	d := drive.New(1 << 21)
	l := opened(t, d, "w", 30)
	most, more := strings.Repeat("m", api.MaxRecord), strings.Repeat("m", api.MaxRecord+1)
	if at, e := l.Append(text("a"), text(more), text("b")); at != 0 || e != api.ErrSize || len(d.List("")) != 0 || l.Next() != 0 {
		t.Errorf("too long: %d, %d", at, e)
	}
	appended(t, l, 0, most)
	appended(t, l, 1, "")
	said, lies := told(l), files(d)
	if at, e := l.Append(text("a"), text(most)); at != 0 || e != api.ErrFull {
		t.Errorf("no room: %d, %d", at, e)
	}
	if at, e := l.Append(text(most), text(more)); at != 0 || e != api.ErrSize {
		t.Errorf("no room, and too long: %d, %d", at, e)
	}
	if told(l) != said || files(d) != lies {
		t.Errorf("an error changed something: %v", l.Spans())
	}
	appended(t, l, 2, "b")
	d.Arm(0)
	said = fmt.Sprint(l.First(), l.Next(), l.Spans(), l.Closed())
	for range 2 {
		if at, e := l.Append(text("c")); at != 0 || e != api.ErrDead {
			t.Errorf("a dead drive: %d, %d", at, e)
		}
		if at, e := l.Append(text(more)); at != 0 || e != api.ErrSize {
			t.Errorf("a dead drive, and too long: %d, %d", at, e)
		}
		if at, e := l.Append(); at != 3 || e != api.OK {
			t.Errorf("a dead drive, no records: %d, %d", at, e)
		}
		if got := fmt.Sprint(l.First(), l.Next(), l.Spans(), l.Closed()); got != said {
			t.Errorf("an error changed something: %s, not %s", got, said)
		}
	}
}

func TestWithoutRoom(t *testing.T) { // P5.4
	for room := range 150 {
		d := drive.New(room)
		l := opened(t, d, "w", 40)
		var there []string
		for i := range 12 {
			record := strings.Repeat("r", i%4)
			said, lies := told(l), files(d)
			at, e := l.Append(text(record), text("s"))
			if e == api.OK {
				if at != uint64(len(there)) {
					t.Fatalf("room %d: Append = %d", room, at)
				}
				there = append(there, record, "s")
			} else if e != api.ErrFull || at != 0 || told(l) != said || files(d) != lies {
				t.Fatalf("room %d: %d, %s, ahead %s", room, e, told(l), said)
			}
		}
		wanted := fmt.Sprintf("%q", texts(there...))
		again := opened(t, d, "w", 40)
		if b, e := again.Records(0, again.Next()); e != api.OK || fmt.Sprintf("%q", b) != wanted {
			t.Errorf("room %d: %q, not %s", room, b, wanted)
		}
		if d.Used() > room || room > 140 && len(there) == 0 {
			t.Errorf("room %d: %d used", room, d.Used())
		}
		if len(there) == 0 {
			continue
		}
		want(t, "Drop", again.Drop(again.Next()), api.OK) // what is dropped makes room
		if again.Next() != uint64(len(there)) {
			t.Errorf("room %d: behind Drop %s", room, told(again))
		}
	}
}

func TestMemory(t *testing.T) { // P5.6
	d := drive.New(1000)
	l := opened(t, d, "w", 60)
	room := append(make([]byte, 0, 8), "abc"...)
	list := append(make([][]byte, 0, 4), room, room[:2])
	l.Append(list...)
	l.Append(room, room)
	if !bytes.Equal(room[:8], append(text("abc"), 0, 0, 0, 0, 0)) || list[:4][3] != nil || !bytes.Equal(list[1], text("ab")) {
		t.Errorf("what was handed in was changed: %v %q", room[:8], list[:4])
	}
	clear(room)
	wanted := `first 0 next 4 closed 0 spans [{0 4}] records ["abc" "ab" "abc" "abc"] 0`
	wantTold(t, "what was handed in is kept", l, wanted)
	one, _ := l.Records(0, 4)
	other, _ := l.Records(0, 4)
	for _, b := range one {
		clear(b[:cap(b)])
	}
	if fmt.Sprintf("%q", other) != `["abc" "ab" "abc" "abc"]` {
		t.Errorf("two answers share memory: %q", other)
	}
	for _, b := range other[:1] {
		_ = append(b, "grown"...)
	}
	if fmt.Sprintf("%q", other) != `["abc" "ab" "abc" "abc"]` {
		t.Errorf("records of one answer share memory: %q", other)
	}
	spans := l.Spans()
	clear(spans[:cap(spans)])
	wantTold(t, "an answer was changed", l, wanted)
}
