package drive

import (
	"bytes"
	"fmt"
	"math"
	"slices"
	"testing"

	"groyne/api"
)

// told answers all that is to be seen of a drive.
func told(d *Drive) string {
	text := fmt.Sprintf("dead %v queue %d used %d:", d.Dead(), d.Queue(), d.Used())
	for _, name := range d.List("") {
		b, e := d.Read(name)
		text += fmt.Sprintf(" %q %v %d", name, b, e)
	}
	return text
}

// wantFiles holds the files of a drive, alive and without a queue, against a text.
func wantFiles(t *testing.T, what string, d *Drive, want string) {
	t.Helper()
	text := ""
	for _, name := range d.List("") {
		b, _ := d.Read(name)
		text += fmt.Sprintf("%s%v", name, b)
	}
	if text != want || d.Queue() != 0 || d.Dead() {
		t.Errorf("%s: %s, not %s", what, told(d), want)
	}
}

func want(t *testing.T, what string, got, want api.Errno) {
	t.Helper()
	if got != want {
		t.Errorf("%s = %d, not %d", what, got, want)
	}
}

func TestCrashKeepsUnits(t *testing.T) { // P4.2
	for keep, files := range map[int]string{
		0: "a[1 2]", 1: "a[1 2]", 2: "a[1 7]", 3: "a[1 7 8]", 4: "a[1 7 8 9]", 5: "a[1 7 8 9]b[]", 6: "a[1 7 8 9]b[5]",
		7: "a[1 2]", 10: "a[1 7 8]", -1: "a[1 7 8 9]b[5]", -2: "a[1 7 8 9]b[]", -7: "a[1 2]", -8: "a[1 7 8 9]b[5]",
		math.MaxInt: "a[1 2]", math.MinInt: "a[1 7 8 9]b[5]", // both are brought round by 7: 2^63 = 8^21 is one above a multiple of it
	} {
		d := New(100)
		d.Append("a", []byte{1, 2})
		want(t, "Flush", d.Flush(), api.OK)
		want(t, "Write", d.Write("a", 1, []byte{7, 8, 9}), api.OK)
		want(t, "Append", d.Append("b", []byte{5}), api.OK)
		d.Crash(keep)
		wantFiles(t, fmt.Sprintf("Crash(%d)", keep), d, files)
		d.Crash(keep)
		wantFiles(t, fmt.Sprintf("Crash(%d) again", keep), d, files)
	}
}

func TestCrashWithinEachKind(t *testing.T) { // P4.2
	for keep, files := range []string{"a[1 2]b[3]", "a[1]b[3]", "b[1]", "b[1]", "", "c[]", "c[4]"} {
		d := New(100)
		d.Append("a", []byte{1, 2})
		d.Append("b", []byte{3})
		d.Flush()
		want(t, "Trim", d.Trim("a", 1), api.OK)
		want(t, "Rename", d.Rename("a", "b"), api.OK)
		want(t, "Rename to itself", d.Rename("b", "b"), api.OK)
		want(t, "Remove", d.Remove("b"), api.OK)
		want(t, "Append", d.Append("c", []byte{4}), api.OK)
		if d.Queue() != 5 || d.Used() != 1 {
			t.Errorf("five operations: %s", told(d))
		}
		d.Crash(keep)
		wantFiles(t, fmt.Sprintf("Crash(%d)", keep), d, files)
	}
}

func TestFlushedIsSafe(t *testing.T) { // P4.2
	for keep := range 40 {
		d := New(100)
		d.Append("a", []byte{1, 2, 3})
		d.Flush()
		d.Append("b", []byte{4})
		d.Arm(0)
		want(t, "Flush that dies", d.Flush(), api.ErrDead)
		d.Crash(keep)
		if b, e := d.Read("a"); e != api.OK || !bytes.Equal(b, []byte{1, 2, 3}) {
			t.Fatalf("Crash(%d) took what was flushed: %v, %d", keep, b, e)
		}
		if _, e := d.Read("b"); (e == api.OK) != (keep%3 > 0) { // a Flush that dies does nothing
			t.Fatalf("Crash(%d): b: %d", keep, e)
		}
	}
}

func TestErrorsOfDeeds(t *testing.T) { // P4.1
	d := New(3)
	want(t, "Append(a, 1 2 3)", d.Append("a", []byte{1, 2, 3}), api.OK)
	ahead := told(d)
	want(t, "Write(a, 2, 5 5)", d.Write("a", 2, []byte{5, 5}), api.ErrFull)
	want(t, "Append(a, 5)", d.Append("a", []byte{5}), api.ErrFull)
	want(t, "Append(b, 5)", d.Append("b", []byte{5}), api.ErrFull)
	want(t, "Write(a, 4, none)", d.Write("a", 4, nil), api.ErrArg)
	want(t, "Write(a, 4, 5)", d.Write("a", 4, []byte{5}), api.ErrArg)
	want(t, "Write(a, -1, 5 5)", d.Write("a", -1, []byte{5, 5}), api.ErrArg)
	want(t, "Write(a, MinInt)", d.Write("a", math.MinInt, nil), api.ErrArg)
	want(t, "Write(a, MaxInt)", d.Write("a", math.MaxInt, []byte{1}), api.ErrArg)
	want(t, "Write(b, 1)", d.Write("b", 1, nil), api.ErrArg)
	want(t, "Trim(a, -1)", d.Trim("a", -1), api.ErrArg)
	want(t, "Trim(a, 4)", d.Trim("a", 4), api.ErrArg)
	want(t, "Trim(b, -1)", d.Trim("b", -1), api.ErrArg)
	want(t, "Trim(b, 0)", d.Trim("b", 0), api.ErrNone)
	want(t, "Trim(b, 1)", d.Trim("b", 1), api.ErrNone)
	want(t, "Rename(b, a)", d.Rename("b", "a"), api.ErrNone)
	want(t, "Rename(b, b)", d.Rename("b", "b"), api.ErrNone)
	want(t, "Remove(b)", d.Remove("b"), api.ErrNone)
	if _, e := d.Read("b"); e != api.ErrNone || d.Size("b") != 0 {
		t.Errorf("Read(b) = %d, Size %d", e, d.Size("b"))
	}
	if told(d) != ahead {
		t.Errorf("an error changed something: %s, ahead %s", told(d), ahead)
	}
	want(t, "Write(a, 3, none)", d.Write("a", 3, nil), api.OK)
	want(t, "Write(a, 1, 5 5)", d.Write("a", 1, []byte{5, 5}), api.OK)
	want(t, "Trim(a, 3)", d.Trim("a", 3), api.OK)
	want(t, "Trim(a, 1)", d.Trim("a", 1), api.OK)
	if d.Used() != 1 || d.Queue() != 5 {
		t.Errorf("behind it: %s", told(d))
	}
	want(t, "Append(b, 6 7)", d.Append("b", []byte{6, 7}), api.OK)
	want(t, "Rename(b, a)", d.Rename("b", "a"), api.OK)
	if b, e := d.Read("a"); e != api.OK || !bytes.Equal(b, []byte{6, 7}) || d.Used() != 2 || d.Size("a") != 2 {
		t.Errorf("Read(a) = %v, %d: %s", b, e, told(d))
	}
}

func TestNoRoom(t *testing.T) { // P4.1
	for what, d := range map[string]*Drive{"zero": {}, "New(0)": New(0), "New(-5)": New(-5), "New(MinInt)": New(math.MinInt)} {
		want(t, what+": Append(a, 1)", d.Append("a", []byte{1}), api.ErrFull)
		want(t, what+": Flush", d.Flush(), api.OK)
		want(t, what+": Remove", d.Remove("a"), api.ErrNone)
		if d.Dead() || d.Used() != 0 || d.Queue() != 0 || len(d.List("")) != 0 || d.Size("a") != 0 {
			t.Errorf("%s: %s", what, told(d))
		}
		d.Crash(5)
		wantFiles(t, what+": Crash", d, "")
		want(t, what+": Append(a)", d.Append("a", nil), api.OK)
		want(t, what+": Append()", d.Append("", nil), api.OK)
		want(t, what+": Rename", d.Rename("a", "b"), api.OK)
		want(t, what+": Clear", Clear(d.Twin()), api.OK)
		d.Crash(1)
		wantFiles(t, what+": a crash behind a file was made", d, "a[]")
		d.Wipe()
		wantFiles(t, what+": Wipe", d, "")
		want(t, what+": Append(a, 1) behind it", d.Append("a", []byte{1}), api.ErrFull)
	}
}

func TestArm(t *testing.T) { // P4.1
	for keep, files := range []string{"", "a[]", "a[1]", ""} {
		d := New(10)
		d.Arm(0)
		want(t, "Append of one armed with 0", d.Append("a", []byte{1}), api.ErrDead)
		if !d.Dead() || d.Size("a") != 0 || d.List("") != nil || d.Queue() != 1 || d.Used() != 1 {
			t.Errorf("a dead drive: %s", told(d))
		}
		d.Crash(keep)
		wantFiles(t, fmt.Sprintf("Crash(%d)", keep), d, files)
		want(t, "Append behind a crash", d.Append("b", nil), api.OK)
	}
	d := New(3)
	d.Append("a", []byte{1, 2})
	d.Arm(3)
	want(t, "first", d.Write("a", 0, []byte{3}), api.OK)
	want(t, "an error isn't counted", d.Append("a", []byte{1, 2}), api.ErrFull)
	want(t, "second", d.Flush(), api.OK)
	want(t, "third", d.Trim("a", 1), api.OK)
	want(t, "ErrFull of one armed with 0", d.Append("a", []byte{1, 2, 3}), api.ErrFull)
	want(t, "ErrArg of one armed with 0", d.Write("a", 7, nil), api.ErrArg)
	want(t, "ErrNone of one armed with 0", d.Remove("b"), api.ErrNone)
	if d.Dead() || d.Queue() != 1 {
		t.Errorf("armed with 0, and no deed yet: %s", told(d))
	}
	want(t, "a look is no deed", api.Errno(d.Size("a")), 1)
	want(t, "the deed that kills", d.Remove("a"), api.ErrDead)
	d.Crash(1)
	wantFiles(t, "Trim is kept, Remove not", d, "a[3]")
	d.Arm(2)
	d.Arm(-1)
	for range 5 {
		want(t, "disarmed", d.Flush(), api.OK)
	}
	d.Arm(0)
	d.Arm(1)
	want(t, "armed anew", d.Flush(), api.OK)
	want(t, "armed anew, then", d.Flush(), api.ErrDead)
	d.Arm(math.MinInt)
	d.Arm(5)
	if want(t, "Arm of a dead drive", d.Flush(), api.ErrDead); !d.Dead() {
		t.Errorf("Arm brought a drive to life")
	}
	d.Wipe()
	for range 5 {
		want(t, "Wipe disarms", d.Append("a", nil), api.OK)
	}
	d.Arm(0)
	d.Crash(0)
	want(t, "Crash disarms", d.Append("a", nil), api.OK)
}

func TestDeadAnswersDead(t *testing.T) { // P4.1
	d := New(3)
	d.Append("a", []byte{1})
	d.Arm(0)
	want(t, "Flush", d.Flush(), api.ErrDead)
	ahead := told(d)
	for what, e := range map[string]api.Errno{
		"Write": d.Write("a", 0, nil), "Write, a wrong place": d.Write("a", -1, nil), "Write, no room": d.Write("a", 0, make([]byte, 9)),
		"Append": d.Append("a", nil), "Append, no room": d.Append("a", make([]byte, 9)), "Trim": d.Trim("a", 0), "Trim, a wrong size": d.Trim("a", -1),
		"Trim, no file": d.Trim("z", 0), "Rename": d.Rename("a", "b"), "Rename, no file": d.Rename("z", "b"),
		"Remove": d.Remove("a"), "Remove, no file": d.Remove("z"), "Flush": d.Flush(), "Replace": Replace(d, "a", nil), "Clear": Clear(d),
	} {
		want(t, what+" of a dead drive", e, api.ErrDead)
	}
	for _, name := range []string{"a", "z"} {
		if b, e := d.Read(name); e != api.ErrDead || b != nil || d.Size(name) != 0 || d.List(name) != nil {
			t.Errorf("looks of a dead drive: %v, %d, %d, %v", b, e, d.Size(name), d.List(name))
		}
	}
	if told(d) != ahead {
		t.Errorf("a deed changed a dead drive: %s", told(d))
	}
	d.Crash(-1)
	wantFiles(t, "Crash", d, "a[1]")
}

func TestTwin(t *testing.T) { // P4.3
	d := New(10)
	d.Append("a", []byte{1})
	d.Flush()
	d.Append("a", []byte{2})
	d.Append("b", []byte{3})
	d.Append("b", []byte{4}) // a queue of three has room for a fourth one behind it
	one, two := d.Twin(), d.Twin()
	want(t, "the first twin's", one.Append("b", []byte{5}), api.OK)
	want(t, "the second twin's", two.Remove("a"), api.OK)
	want(t, "the drive's own", d.Write("a", 0, []byte{6}), api.OK)
	three := one.Twin()
	three.Write("b", 0, []byte{7})
	d.Crash(-1)
	wantFiles(t, "the drive", d, "a[6 2]b[3 4]")
	one.Crash(-1)
	wantFiles(t, "the first twin", one, "a[1 2]b[3 4 5]")
	two.Crash(-1)
	wantFiles(t, "the second twin", two, "b[3 4]")
	three.Crash(-1)
	wantFiles(t, "a twin's twin", three, "a[1 2]b[7 4 5]")
	d.Wipe()
	one.Crash(0)
	wantFiles(t, "a twin of a wiped drive", one, "a[1 2]b[3 4 5]")
	want(t, "a twin's room", one.Append("c", make([]byte, 6)), api.ErrFull)
	want(t, "a twin's room, just", one.Append("c", make([]byte, 5)), api.OK)

	d.Arm(1)
	armed := d.Twin()
	want(t, "first of the armed twin", armed.Flush(), api.OK)
	want(t, "second of the armed twin", armed.Append("x", nil), api.ErrDead)
	dead := armed.Twin()
	if !dead.Dead() || dead.Queue() != 1 || d.Dead() {
		t.Errorf("a dead twin: %s", told(dead))
	}
	dead.Crash(1)
	wantFiles(t, "a dead twin behind a crash", dead, "x[]")
	if !armed.Dead() {
		t.Errorf("a twin's crash brought the other to life")
	}
}

func TestDir(t *testing.T) { // P4.3
	d := New(100)
	for _, name := range []string{"p/x2", "p/x1", "p/y", "p/", "p", "q/x1", "p/x10"} {
		d.Append(name, []byte(name))
	}
	dir := Dir{Drive: d, Prefix: "p/"}
	for _, c := range []struct {
		parts []string
		path  string
		names []string
	}{
		{nil, "p/", []string{"", "x1", "x10", "x2", "y"}},
		{[]string{"x"}, "p/x", []string{"x1", "x10", "x2"}},
		{[]string{"x", "", "1"}, "p/x1", []string{"x1", "x10"}},
		{[]string{"z"}, "p/z", nil},
	} {
		if got := dir.Path(c.parts...); got != c.path {
			t.Errorf("Path(%q) = %q", c.parts, got)
		}
		if got := dir.Names(c.parts...); !slices.Equal(got, c.names) {
			t.Errorf("Names(%q) = %q", c.parts, got)
		}
	}
	if got := (Dir{Drive: d}).Names(); !slices.Equal(got, d.List("")) {
		t.Errorf("without a prefix: %q", got)
	}
	if b, e := dir.Read(dir.Path("y")); e != api.OK || string(b) != "p/y" || dir.Used() != d.Used() {
		t.Errorf("the drive by the Dir: %q, %d", b, e)
	}
	d.Arm(0)
	if want(t, "a deed by the Dir", dir.Remove("p/y"), api.ErrDead); dir.Names() != nil || !dir.Dead() {
		t.Errorf("a Dir of a dead drive: %q", dir.Names())
	}
}

func TestReplace(t *testing.T) { // P4.4
	d := New(8)
	for _, text := range []string{"one", "", "four", "tw"} {
		want(t, "Replace", Replace(d, "f", []byte(text)), api.OK)
		if b, e := d.Read("f"); e != api.OK || string(b) != text || d.Queue() != 0 || !slices.Equal(d.List(""), []string{"f"}) {
			t.Errorf("%q: %q, %d, %s", text, b, e, told(d))
		}
	}
	ahead := told(d)
	want(t, "Replace with no room for both", Replace(d, "f", []byte("seven77")), api.ErrFull)
	if told(d) != ahead {
		t.Errorf("ErrFull changed something: %s", told(d))
	}
	d.Append("f~", []byte("left"))
	ahead = told(d)
	want(t, "no room, and one that was left", Replace(d, "f", []byte("seven77")), api.ErrFull)
	if told(d) != ahead {
		t.Errorf("ErrFull changed something: %s", told(d))
	}
	want(t, "room for one that was left", Replace(d, "f", []byte("six666")), api.OK)
	wantFiles(t, "Replace over one that was left", d, "f[115 105 120 54 54 54]")
}

// everyCrash looks at what each crash leaves of a call that is cut at each of its deeds.
func everyCrash(t *testing.T, d *Drive, call func(d *Drive) api.Errno, look func(d *Drive, done bool)) {
	t.Helper()
	for arm := 0; ; arm++ {
		if arm > 50 {
			t.Fatalf("a call of more than 50 deeds")
		}
		armed := d.Twin()
		armed.Arm(arm)
		e := call(armed)
		if e != api.OK && e != api.ErrDead {
			t.Fatalf("armed with %d: %d", arm, e)
		}
		for keep := range 40 {
			crashed := armed.Twin()
			crashed.Crash(keep)
			look(crashed, e == api.OK)
		}
		if e == api.OK {
			return
		}
	}
}

func TestReplaceAtEachCrash(t *testing.T) { // P4.4
	for _, left := range []string{"none", "", "ab", "abcdefgh"} {
		for _, old := range []string{"none", "", "old"} {
			for _, text := range []string{"", "new", "newer"} {
				d := New(100)
				if old != "none" {
					d.Append("f", []byte(old))
				}
				if left != "none" {
					d.Append("f~", []byte(left))
				}
				d.Append("g", []byte("other"))
				d.Flush()
				everyCrash(t, d, func(d *Drive) api.Errno { return Replace(d, "f", []byte(text)) }, func(d *Drive, done bool) {
					b, e := d.Read("f")
					has := e == api.OK && string(b) == text
					had := e == api.OK && string(b) == old || e == api.ErrNone && old == "none"
					if !has && (done || !had) {
						t.Errorf("left %q, old %q, new %q: %q, %d", left, old, text, b, e)
					}
					if b, _ := d.Read("g"); string(b) != "other" {
						t.Errorf("another file: %q", b)
					}
					want(t, "the next Replace", Replace(d, "f", []byte("x")), api.OK)
					wantFiles(t, "the next Replace", d, "f[120]g[111 116 104 101 114]")
				})
			}
		}
	}
}

func TestClear(t *testing.T) { // P4.4
	full := New(100)
	for _, name := range []string{"d", "a", "c", "b", ""} {
		full.Append(name, []byte(name))
	}
	full.Flush()
	for _, c := range []struct {
		first []string
		order []string
	}{
		{nil, []string{"", "a", "b", "c", "d"}},
		{[]string{"d", "b"}, []string{"b", "d", "", "a", "c"}},
		{[]string{"z", "d", "d", "A"}, []string{"d", "", "a", "b", "c"}},
		{[]string{"d", "c", "b", "a", ""}, []string{"", "a", "b", "c", "d"}},
	} {
		given := slices.Clone(c.first)
		for n := range c.order {
			d := full.Twin()
			d.Arm(n)
			want(t, "Clear of one armed", Clear(d, given...), api.ErrDead)
			d.Crash(-1)
			left := slices.Sorted(slices.Values(c.order[n+1:]))
			if got := d.List(""); !slices.Equal(got, left) {
				t.Errorf("Clear(%q), cut at %d: %q, not %q", c.first, n, got, left)
			}
		}
		d := full.Twin()
		want(t, "Clear", Clear(d, given...), api.OK)
		d.Crash(0)
		wantFiles(t, "Clear", d, "")
		if !slices.Equal(given, c.first) {
			t.Errorf("Clear changed what it was handed: %q", given)
		}
	}
	d := New(10)
	d.Append("a", nil)
	d.Remove("a")
	want(t, "Clear of an empty drive", Clear(d, "a"), api.OK)
	if d.Queue() != 0 {
		t.Errorf("Clear didn't flush: %s", told(d))
	}
	d.Arm(0)
	want(t, "Clear of an empty drive flushes", Clear(d), api.ErrDead)
}

func TestMemory(t *testing.T) { // P4.5
	d := New(100)
	given := append(make([]byte, 0, 8), 1, 2, 3)
	spare := given[:8]
	d.Append("a", given)
	d.Write("a", 1, given)
	Replace(d, "b", given)
	d.Append("c", given)
	d.Append("c", []byte{9})
	if !bytes.Equal(spare, []byte{1, 2, 3, 0, 0, 0, 0, 0}) {
		t.Errorf("what was handed in was changed: %v", spare)
	}
	for i := range spare {
		spare[i] = 77
	}
	want := "a[1 1 2 3]b[1 2 3]c[1 2 3 9]"
	for _, name := range []string{"a", "b", "c"} {
		b, _ := d.Read(name)
		b = b[:cap(b)]
		for i := range b {
			b[i] = 88
		}
	}
	names := d.List("")
	for i := range names {
		names[i] = "z"
	}
	twin := d.Twin()
	d.Flush()
	wantFiles(t, "what was seen", d, want)
	twin.Crash(-1) // the queue's bytes too are the drive's own
	wantFiles(t, "what was queued", twin, want)
}
