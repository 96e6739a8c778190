package dump_test

import (
	"fmt"
	"slices"
	"strings"
	"testing"

	"groyne/api"
	"groyne/drive"
	"groyne/dump"
	"groyne/pack"
	"groyne/parity"
	"groyne/vault"
)

func TestWhatIsLost(t *testing.T) { // P15.4
	n, v, b := backedUp(t)
	names := v.List("")
	if len(names) < 5 {
		t.Fatalf("there are only %v", names)
	}
	for _, name := range names {
		thing, _ := v.Get(name)
		v.Lose(name)
		refuses(t, name+" is lost", drive.New(1<<20), v, b, api.ErrNotArchived, n.records[4:]...)
		// It is finished as long as its end is there.
		if l := dump.Finished(v); slices.Contains(l, b) == strings.HasSuffix(name, ".end") {
			t.Errorf("%s is lost: Finished = %v", name, l)
		}
		if l := dump.Open(v); (len(l) == 1 && l[0] == b.Id) != strings.HasSuffix(name, ".end") {
			t.Errorf("%s is lost: Open = %v", name, l)
		}
		v.Put(name, thing)
	}
	n.whole(v, b)
}

func TestWhatIsSpoilt(t *testing.T) { // P15.1, P15.4
	n, v, b := backedUp(t)
	begins(t, n, v, 4)
	steps(t, n, v, 4, 1, false)
	steps(t, n, v, 4, 1, false)
	begins(t, n, v, 6)
	names := v.List("")
	for i, name := range names {
		thing, _ := v.Get(name)
		turned := slices.Clone(thing)
		turned[len(turned)-1] ^= 1
		other, _ := v.Get(names[(i+1)%len(names)])
		for what, b := range map[string][]byte{"nothing": nil, "junk": []byte("junk"), "cut": thing[:len(thing)-1], "longer": append(slices.Clone(thing), 0), "turned": turned, "another": other} {
			v.Lose(name)
			v.Put(name, b)
			id, _ := vault.ToNumber(strings.TrimPrefix(name, "n/base.")[:16])
			leaves(t, "Step", v, func() {
				if done, e := dump.Step(n.Store, v, id, 1); done || e != api.ErrForm {
					t.Errorf("%s is %s: Step = %v, %d", name, what, done, e)
				}
			})
		}
		if id := vault.Number(b.Id); strings.Contains(name, id) {
			refuses(t, name+" is spoilt", drive.New(1<<20), v, b, api.ErrNotArchived, n.records[4:]...)
		}
		end, begin := strings.HasSuffix(name, ".end"), strings.HasSuffix(name, ".begin")
		if l := dump.Finished(v); slices.Contains(l, b) == end {
			t.Errorf("%s is spoilt: Finished = %v", name, l)
		}
		if o := fmt.Sprint(dump.Open(v)); (o != "[4 6]") != (end || begin && !strings.Contains(name, vault.Number(b.Id))) {
			t.Errorf("%s is spoilt: Open = %s", name, o)
		}
		v.Lose(name)
		v.Put(name, thing)
	}
}

func TestOneBackupIsntAnother(t *testing.T) { // P15.4
	n, v, b := backedUp(t)
	begins(t, n, v, 4)
	for range 6 {
		dump.Step(n.Store, v, 4, 1)
	}
	for _, name := range v.List("") {
		twin := strings.Replace(name, vault.Number(4), vault.Number(3), 1)
		mine, e := v.Get(twin)
		other, _ := v.Get(name)
		if twin == name || e != api.OK {
			continue
		}
		v.Lose(twin)
		v.Put(twin, other)
		refuses(t, twin+" is another's", drive.New(1<<20), v, b, api.ErrNotArchived, n.records[4:]...)
		v.Lose(twin)
		v.Put(twin, mine)
	}
	n.whole(v, b)
}

// What is lost of a backup that isn't finished is told, or made good.
func TestLostAheadOfTheEnd(t *testing.T) { // P15.1, P15.4
	told, good := 0, 0
	for lost := range 1 << 5 {
		for _, more := range []int{1, 9} {
			n, v := with(t, one(1, put("a", "1"), put("b", "1"), put("c", "1"), put("d", "1"), put("e", "1"), put("f", "1"))), shelf()
			begins(t, n, v, 1)
			for i := range 4 {
				steps(t, n, v, 1, 1, false)
				n.add(one(uint64(10+i), put(fmt.Sprint("k", i), "")))
			}
			for i, name := range v.List("") {
				if lost>>i&1 == 1 {
					v.Lose(name)
				}
			}
			if open := len(dump.Open(v)); open != 1-lost&1 {
				t.Fatalf("%05b is lost: Open has %d", lost, open)
			}
			var e api.Errno
			for done := false; !done && e == api.OK; {
				done, e = dump.Step(n.Store, v, 1, more)
			}
			if lost&1 == 1 { // the beginning
				answers(t, "without a beginning", e, api.ErrNone)
				continue
			}
			b, ok := dump.Choose(v, n.Next())
			if e != api.OK || !ok {
				t.Fatalf("%05b is lost: Step: %d", lost, e)
			}
			if _, e := dump.Restore(drive.New(1<<20), prefix, plain, v, b, n.records[b.From:]...); e == api.ErrNotArchived {
				told++
				continue
			}
			good++
			n.whole(v, b)
		}
	}
	// Those are good of which just the last pieces were lost: none to all of the four.
	if good != 2*5 || told != 2*(16-5) {
		t.Errorf("%d were told, %d good", told, good)
	}
}

// A backup goes on behind its last piece once more, if its end was lost.
func TestLostEnd(t *testing.T) { // P15.1, P15.2, P15.4
	n, v, b := backedUp(t)
	for _, name := range v.List("") {
		if strings.HasSuffix(name, ".end") {
			v.Lose(name)
		}
	}
	n.add(one(20, put("zz", "")), mark(20))
	steps(t, n, v, b.Id, 1, true)
	l := dump.Finished(v)
	if len(l) != 1 || l[0] != (dump.Base{Id: 3, From: 4, To: 11}) {
		t.Fatalf("Finished = %v", l)
	}
	n.whole(v, l[0])
	refuses(t, "as it was", drive.New(1<<20), v, b, api.ErrNotArchived)
}

// forged has something else as a thing of a backup, in whichever form.
func forged(t *testing.T, kind string, says func(w *pack.Writer)) (*node, vault.Shelf, dump.Base) {
	t.Helper()
	n, v, b := backedUp(t)
	name := "base." + vault.Number(b.Id) + kind
	var w pack.Writer
	w.Text([]byte(name))
	says(&w)
	if v.Lose(v.Path(name)) != 1 {
		t.Fatalf("there is no %s", name)
	}
	v.Store(parity.Wrap(w.Bytes()), name)
	return n, v, b
}

func TestWhatIsntInForm(t *testing.T) { // P15.1, P15.4
	good := with(t).Dump()
	for kind, forms := range map[string][]func(w *pack.Writer){
		".begin": {
			func(w *pack.Writer) { w.Num(4) },
			func(w *pack.Writer) { w.Num(4); w.Text(good); w.Num(0) },
		},
		".piece." + vault.Number(1): {
			func(w *pack.Writer) { w.Text([]byte("a")) },
			func(w *pack.Writer) { w.Num(5) },
		},
		".end": {
			func(w *pack.Writer) { w.Num(4, 6) },
			func(w *pack.Writer) { w.Num(4, 6, 3, 0) },
		},
	} {
		for _, says := range forms {
			n, v, b := forged(t, kind, says)
			if _, e := dump.Step(n.Store, v, b.Id, 1); e != api.ErrForm {
				t.Errorf("%s: Step: %d", kind, e)
			}
			refuses(t, kind, drive.New(1<<20), v, b, api.ErrNotArchived)
			if end := kind == ".end"; slices.Contains(dump.Finished(v), b) == end || (len(dump.Open(v)) == 1) != end {
				t.Errorf("%s: Finished = %v, Open = %v", kind, dump.Finished(v), dump.Open(v))
			}
		}
	}
	n, v, b := forged(t, ".begin", func(w *pack.Writer) { w.Num(4); w.Text([]byte("junk")) })
	refuses(t, "what was known is junk", drive.New(1<<20), v, b, api.ErrNotArchived, n.records[4:]...)
}

func TestOpenIsntFinished(t *testing.T) { // P15.4
	n, v := with(t), shelf()
	begins(t, n, v, 0)
	refuses(t, "a beginning alone", drive.New(1<<20), v, dump.Base{}, api.ErrNotArchived)
	steps(t, n, v, 0, 1, true)
	n.whole(v, dump.Base{})
}

func TestForeignPieces(t *testing.T) { // P15.1
	n, v, b := backedUp(t)
	for _, name := range []string{".piece.", ".piece.3", ".pieces", ".ending", ""} {
		v.Store([]byte("junk"), "base.", vault.Number(b.Id), name)
	}
	steps(t, n, v, b.Id, 1, true)
	n.whole(v, b)
}
