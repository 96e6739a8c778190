package dump_test

import (
	"fmt"
	"maps"
	"math"
	"slices"
	"testing"

	"groyne/api"
	"groyne/dump"
	"groyne/vault"
)

func TestExample(t *testing.T) { // P15.1, P15.2
	n, v := with(t, one(1, put("a", ""), put("b", ""), put("c", ""))), shelf()
	begins(t, n, v, 1)
	steps(t, n, v, 1, 2, false)
	n.add(one(2, gone("b"), put("d", "")))
	steps(t, n, v, 1, 9, true)
	l := dump.Finished(v)
	if len(l) != 1 || l[0] != (dump.Base{Id: 1, From: 1, To: 2}) {
		t.Fatalf("Finished = %v", l)
	}
	pairs, _ := restored(t, v, l[0], n.records[1:]...).Scan(nil, nil, 0)
	if got := fmt.Sprintf("%s", pairs); got != "[{a } {c } {d }]" {
		t.Errorf("Restore: %s", got)
	}
	n.whole(v, l[0])
}

// things are all that lies in a vault.
func things(v vault.Shelf) map[string]string {
	all := map[string]string{}
	for _, name := range v.List("") {
		b, _ := v.Get(name)
		all[name] = string(b)
	}
	return all
}

// leaves looks whether a call changes nothing in the vault.
func leaves(t *testing.T, what string, v vault.Shelf, call func()) {
	t.Helper()
	ahead := things(v)
	if call(); !maps.Equal(things(v), ahead) {
		t.Errorf("%s: the vault has changed", what)
	}
}

func TestBegin(t *testing.T) { // P15.1
	n, v := with(t, one(1, put("a", ""), put("b", ""))), shelf()
	for _, id := range []uint64{1, 0, math.MaxUint64} {
		begins(t, n, v, id)
		again := func(what string) {
			leaves(t, what, v, func() { answers(t, what, dump.Begin(n.Store, v, id), api.ErrThere) })
		}
		again("begun")
		begun := v.Names("base.", vault.Number(id))
		steps(t, n, v, id, 1, false)
		again("a piece more")
		steps(t, n, v, id, 1, true)
		again("finished")
		v.Lose(v.Path(begun...))
		again("without its beginning")
	}
	other := v.Sub("x/")
	begins(t, n, other, 1)
	for _, name := range v.Names("base.") {
		if id := name[len("base."):][:16]; !slices.Contains([]string{vault.Number(0), vault.Number(1), vault.Number(math.MaxUint64)}, id) {
			t.Errorf("a thing's name is %s", name)
		}
	}
	v.Store(nil, "base.", vault.Number(7), "anything")
	answers(t, "something of this Id", dump.Begin(n.Store, v, 7), api.ErrThere)
	v.Store(nil, "base.", vault.Number(8)[:15])
	begins(t, n, v, 8)
}

func TestBeginNeedsNoRoom(t *testing.T) { // P15.1
	n, v := with(t, one(1, put("a", ""))), shelf()
	n.d.Arm(0)
	begins(t, n, v, 1)
	steps(t, n, v, 1, 1, true)
	if n.d.Dead() {
		t.Error("the drive died")
	}
}

// A store whose drive died by an Append may count a record that a crash leaves, or doesn't.
func TestBeginOnADeadDrive(t *testing.T) { // P15.2
	for dies := range 2 {
		for _, keep := range []int{0, -1} {
			n, v := with(t, one(1, put("a", ""))), shelf()
			n.d.Arm(dies)
			answers(t, "Append", n.add(one(2, put("b", ""))), api.ErrDead)
			leaves(t, "Begin", v, func() { answers(t, "Begin", dump.Begin(n.Store, v, 1), api.ErrDead) })
			n.crash(keep)
			begins(t, n, v, 1)
			steps(t, n, v, 1, 9, true)
			n.d.Arm(0)
			n.add(mark(1))
			answers(t, "the least error", dump.Begin(n.Store, v, 1), api.ErrThere)
			n.crash(0)
			n.whole(v, dump.Finished(v)[0])
		}
	}
}

func TestStep(t *testing.T) { // P15.1
	keys := "abcdefg"
	for _, c := range []struct {
		keys  int
		most  []int
		steps int
	}{
		{0, []int{1}, 1},
		{1, []int{1}, 1},
		{7, []int{1}, 7},
		{7, []int{0}, 7},
		{7, []int{-5}, 7},
		{7, []int{math.MinInt}, 7},
		{7, []int{2}, 4},
		{7, []int{3, 4}, 2},
		{7, []int{3, 3}, 3},
		{7, []int{6}, 2},
		{7, []int{7}, 1},
		{7, []int{8}, 1},
		{7, []int{1, math.MaxInt}, 2},
	} {
		n, v := with(t), shelf()
		for i, key := range keys[:c.keys] {
			n.add(one(uint64(i), put(string(key), "v")))
		}
		begins(t, n, v, 5)
		for i := range c.steps {
			ahead := v.Count()
			steps(t, n, v, 5, c.most[min(i, len(c.most)-1)], i == c.steps-1)
			if v.Count() == ahead {
				t.Errorf("%v: nothing was put there", c)
			}
		}
		leaves(t, "finished", v, func() { steps(t, n, v, 5, 1, true) })
		want := ""
		for _, key := range keys[:c.keys] {
			want += string(key) + "=v "
		}
		if got := copies(t, v, 5); got != want {
			t.Errorf("%v: %s", c, got)
		}
	}
}

func TestStepTakesWhatIsThereNow(t *testing.T) { // P15.1
	n, v := with(t, one(1, put("b", "1"), put("d", "1"), put("f", "1"), put("h", "1"))), shelf()
	begins(t, n, v, 1)
	n.add(one(2, put("a", "2"), gone("b"), put("d", "2")))
	steps(t, n, v, 1, 2, false) // a, d
	n.add(one(3, put("a", "3"), put("c", "3"), put("d\x00", "3"), put("e", "3"), put("f", "3")))
	n.add(prepare(4, put("g", "4")))
	steps(t, n, v, 1, 1, false) // d and 0: the least key behind d
	steps(t, n, v, 1, 1, false) // e
	n.add(one(5, gone("f"), gone("h"), put("d\x00", "5")))
	steps(t, n, v, 1, 1, true)
	if got := copies(t, v, 1); got != "a=2 d=2 d\x00=3 e=3 " {
		t.Errorf("what was copied is %q", got)
	}
	b := dump.Finished(v)[0]
	if b != (dump.Base{Id: 1, From: 1, To: 5}) {
		t.Errorf("Finished = %v", b)
	}
	n.add(commit(4), mark(1))
	leaves(t, "finished", v, func() { steps(t, n, v, 1, 9, true) })
	n.whole(v, b)
}

func TestTheEmptyKey(t *testing.T) { // P15.1, P15.2
	n, v := with(t, one(1, put("", "0"), put("\x00", "1"))), shelf()
	begins(t, n, v, 1)
	steps(t, n, v, 1, 1, false)
	steps(t, n, v, 1, 1, true)
	if got := copies(t, v, 1); got != "=0 \x00=1 " {
		t.Errorf("what was copied is %q", got)
	}
	begins(t, n, v, 2)
	n.add(one(2, gone(""), gone("\x00")))
	steps(t, n, v, 2, 1, true)
	if got := copies(t, v, 2); got != "" {
		t.Errorf("what was copied is %q", got)
	}
}

func TestNothingToStep(t *testing.T) { // P15.1
	n, v := with(t, one(1, put("a", ""))), shelf()
	for _, id := range []uint64{0, 1, math.MaxUint64} {
		leaves(t, "Step", v, func() {
			done, e := dump.Step(n.Store, v, id, 1)
			if done || e != api.ErrNone {
				t.Errorf("Step(%d) = %v, %d", id, done, e)
			}
		})
		begins(t, n, v, 7)
		v.Lose(v.List("")...)
	}
	if len(dump.Open(v)) != 0 || len(dump.Finished(v)) != 0 {
		t.Errorf("Open = %v, Finished = %v", dump.Open(v), dump.Finished(v))
	}
}

func TestStepOnADeadDrive(t *testing.T) { // P15.1, P15.2
	n, v := with(t, one(1, put("a", ""), put("b", ""))), shelf()
	begins(t, n, v, 1)
	begins(t, n, v, 2)
	steps(t, n, v, 1, 9, true)
	n.d.Arm(0)
	n.add(mark(1))
	leaves(t, "Step", v, func() {
		if done, e := dump.Step(n.Store, v, 2, 1); done || e != api.ErrDead {
			t.Errorf("Step = %v, %d", done, e)
		}
		if done, e := dump.Step(n.Store, v, 3, 1); done || e != api.ErrNone {
			t.Errorf("Step without a beginning = %v, %d", done, e)
		}
		steps(t, n, v, 1, 1, true)
	})
	n.crash(0)
	steps(t, n, v, 2, 9, true)
}

// A tree on few pages at hand writes as it is gone through, so a Step may kill the drive.
func TestStepDies(t *testing.T) { // P15.2
	died := 0
	for at := range 30 {
		n, v := with(t), shelf()
		for i := range 60 {
			n.add(one(uint64(i), put(fmt.Sprint("key", i), fmt.Sprintf("%0120d", i))))
		}
		begins(t, n, v, 1)
		n.d.Arm(at)
		for done := false; !done; {
			var e api.Errno
			ahead := v.Count()
			if done, e = dump.Step(n.Store, v, 1, 7); e == api.OK {
				continue
			}
			if e != api.ErrDead || v.Count() != ahead {
				t.Fatalf("Step: %d, %d things more", e, v.Count()-ahead)
			}
			died++
			n.crash(at)
		}
		n.d.Arm(-1)
		n.whole(v, dump.Finished(v)[0])
	}
	if died == 0 {
		t.Error("no Step died")
	}
}

func TestFinishedAndOpen(t *testing.T) { // P15.1
	n, v := with(t, one(1, put("a", ""), put("b", ""), put("c", ""))), shelf()
	wants := func(finished, open string) {
		t.Helper()
		if f, o := fmt.Sprint(dump.Finished(v)), fmt.Sprint(dump.Open(v)); f != finished || o != open {
			t.Errorf("Finished = %s, Open = %s, want %s, %s", f, o, finished, open)
		}
	}
	wants("[]", "[]")
	for _, id := range []uint64{300, 2, 16, 0, math.MaxUint64} {
		begins(t, n, v, id)
		n.add(mark(id))
	}
	wants("[]", "[0 2 16 300 18446744073709551615]")
	steps(t, n, v, 16, 3, true)
	steps(t, n, v, 2, 2, false)
	n.add(mark(9))
	steps(t, n, v, 300, 5, true)
	steps(t, n, v, 0, 1, false)
	wants("[{16 3 6} {300 1 7}]", "[0 2 18446744073709551615]")
	steps(t, n, v, 2, 1, true)
	steps(t, n, v, math.MaxUint64, 3, true)
	wants("[{2 2 7} {16 3 6} {300 1 7} {18446744073709551615 5 7}]", "[0]")
	for _, name := range []string{"base.", "base.7.end", "base.000000000000000A.begin", "base.0000000000000009", "base.0000000000000009.en", "base.0000000000000009.begin.", "base.00000000000000009.end"} {
		v.Store([]byte("junk"), name)
	}
	wants("[{2 2 7} {16 3 6} {300 1 7} {18446744073709551615 5 7}]", "[0]")
	other := v.Sub("x/")
	if len(dump.Finished(other)) != 0 || len(dump.Open(other)) != 0 {
		t.Error("another shelf has the same backups")
	}
	dump.Finished(v)[0] = dump.Base{}
	clear(dump.Open(v))
	wants("[{2 2 7} {16 3 6} {300 1 7} {18446744073709551615 5 7}]", "[0]")
}

func TestChoose(t *testing.T) { // P15.3
	n, v := with(t), shelf()
	to := map[uint64]uint64{3: 0, 4: 2, 9: 2, 1: 2, 2: 5, 8: 4, 0: 7, 5: 7}
	for at := range uint64(9) {
		for _, id := range []uint64{3, 9, 1, 4, 8, 2, 5, 0} {
			if to[id] == at {
				begins(t, n, v, id)
				steps(t, n, v, id, 1, true)
			}
		}
		if at == 3 {
			begins(t, n, v, 77) // is never finished
		}
		n.add(mark(at))
	}
	for at, id := range map[uint64]uint64{0: 3, 1: 3, 2: 9, 3: 9, 4: 8, 5: 2, 6: 2, 7: 5, 8: 5, math.MaxUint64: 5} {
		if b, ok := dump.Choose(v, at); !ok || b != (dump.Base{Id: id, From: to[id], To: to[id]}) {
			t.Errorf("Choose(%d) = %v, %v, want %d", at, b, ok, id)
		}
	}
	v.Lose(v.List("n/base." + vault.Number(3))...)
	if b, ok := dump.Choose(v, 1); ok || b != (dump.Base{}) {
		t.Errorf("Choose(1) = %v, %v", b, ok)
	}
	if _, ok := dump.Choose(shelf(), math.MaxUint64); ok {
		t.Error("Choose of none")
	}
}
