package gate_test

import (
	"fmt"
	"math"
	"testing"

	"groyne/api"
	"groyne/cut"
	"groyne/drive"
	"groyne/gate"
	"groyne/rec"
	"groyne/shard"
	"groyne/store"
	"groyne/twopc"
	"groyne/vault"
)

// mark is a shard's answer to its Mark.
func mark(id, at uint64) shard.Answer {
	return shard.Answer{Kind: shard.Mark, Id: id, At: at}
}

// marks are what is sent to these shards.
func marks(id uint64, name string, shards ...int) []twopc.Send {
	var list []twopc.Send
	for _, at := range shards {
		list = append(list, twopc.Send{Shard: at, Ask: shard.Ask{Kind: shard.Mark, Id: id, Name: name}})
	}
	return list
}

// looks is all that a gate says of itself, but what it says once.
type looks struct {
	shut    bool
	wants   int
	record  rec.Rec
	again   []twopc.Send
	barrier cut.Barrier
	has     bool
}

// The looks of a gate at each time.

func isOpen() looks { return looks{} }

func wantsCut(id uint64, name string) looks {
	return looks{shut: true, wants: gate.Cut, record: rec.Rec{Kind: rec.Cut, Id: id, Name: name}}
}

func waits(again []twopc.Send) looks { return looks{shut: true, again: again} }

func wantsEnter(b cut.Barrier) looks {
	return looks{shut: true, wants: gate.Enter, record: rec.Rec{Kind: rec.Done, Id: b.Id, Name: b.Name}, barrier: b, has: true}
}

func look(g *gate.Gate) looks {
	b, has := g.Barrier()
	return looks{g.Shut(), g.Wants(), g.Record(), g.Retry(), b, has}
}

// is compares two answers; lists that are nil and that are empty are alike.
func is(t *testing.T, what string, got, want any) {
	t.Helper()
	if got, want := fmt.Sprintf("%+v", got), fmt.Sprintf("%+v", want); got != want {
		t.Errorf("P20.1: %s: %s, want %s", what, got, want)
	}
}

func says(t *testing.T, what string, g *gate.Gate, want looks) {
	t.Helper()
	is(t, what, look(g), want)
}

// ended: these barriers have ended since this was asked last.
func ended(t *testing.T, what string, g *gate.Gate, want ...gate.Result) {
	t.Helper()
	is(t, what, g.Results(), want)
	is(t, what+", once more", g.Results(), []gate.Result{})
}

// begun has begun the barrier 7 b, and logged its Cut at 9.
func begun(t *testing.T, shards, patience int) *gate.Gate {
	t.Helper()
	g := gate.New(shards, patience)
	is(t, "Begin", g.Begin(7, "b"), api.OK)
	g.Logged(9)
	return g
}

func ticks(g *gate.Gate, n int) {
	for range n {
		g.Tick()
	}
}

func TestExamples(t *testing.T) { // the chapter's examples
	g := gate.New(2, 3)
	says(t, "New", g, isOpen())
	is(t, "Begin", g.Begin(7, "b"), api.OK)
	says(t, "Begin", g, wantsCut(7, "b"))
	is(t, "Logged", g.Logged(9), marks(7, "b", 0, 1))
	says(t, "Logged", g, waits(marks(7, "b", 0, 1)))
	g.Answer(0, mark(7, 4))
	says(t, "one answer", g, waits(marks(7, "b", 1)))
	g.Answer(1, mark(7, 6))
	says(t, "both", g, wantsEnter(cut.Barrier{Id: 7, Name: "b", At: []uint64{4, 6, 9}}))
	ended(t, "not yet", g)
	is(t, "Logged", g.Logged(10), marks(0, ""))
	says(t, "Logged", g, isOpen())
	ended(t, "finished", g, gate.Result{Id: 7, Name: "b"})

	g = begun(t, 2, 3)
	g.Answer(0, mark(7, 4))
	ticks(g, 2)
	says(t, "two ticks", g, waits(marks(7, "b", 1)))
	ended(t, "two ticks", g)
	g.Tick()
	says(t, "three ticks", g, isOpen())
	ended(t, "three ticks", g, gate.Result{Id: 7, Name: "b", Err: api.ErrBarrierFailed})
}

func TestBegin(t *testing.T) { // P20.1: one at a time
	g := gate.New(1, 2)
	busy := func(what string, want looks) {
		t.Helper()
		is(t, what, g.Begin(8, "c"), api.ErrBusy)
		is(t, what, g.Begin(7, "b"), api.ErrBusy)
		says(t, what, g, want)
		ended(t, what, g)
	}
	is(t, "Begin", g.Begin(7, "b"), api.OK)
	busy("wants its Cut", wantsCut(7, "b"))
	g.Logged(3)
	busy("waits", waits(marks(7, "b", 0)))
	g.Answer(0, mark(7, 5))
	busy("wants to be entered", wantsEnter(cut.Barrier{Id: 7, Name: "b", At: []uint64{5, 3}}))
	g.Logged(4)
	is(t, "the same again", g.Begin(7, "b"), api.OK)
	says(t, "the same again", g, wantsCut(7, "b"))
	g.Fail()
	is(t, "any name", g.Begin(math.MaxUint64, "a b\xff"), api.OK)
	says(t, "any name", g, wantsCut(math.MaxUint64, "a b\xff"))
	g.Fail()
	is(t, "no name", g.Begin(0, ""), api.OK)
	says(t, "no name", g, wantsCut(0, ""))
}

func TestShards(t *testing.T) { // P20.1
	for _, shards := range []int{0, -1, math.MinInt} {
		g := begun(t, shards, 1)
		says(t, "without shards", g, wantsEnter(cut.Barrier{Id: 7, Name: "b", At: []uint64{9}}))
		for at := range 3 {
			g.Answer(at-1, mark(7, 1))
		}
		ticks(g, 5)
		says(t, "without shards", g, wantsEnter(cut.Barrier{Id: 7, Name: "b", At: []uint64{9}}))
		is(t, "without shards", g.Logged(10), marks(0, ""))
		ended(t, "without shards", g, gate.Result{Id: 7, Name: "b"})
	}
	g := gate.New(4, 1)
	g.Begin(1, "n")
	is(t, "rising", g.Logged(0), marks(1, "n", 0, 1, 2, 3))
	g.Answer(2, mark(1, 0))
	is(t, "rising", g.Retry(), marks(1, "n", 0, 1, 3))
	g.Answer(3, mark(1, math.MaxUint64))
	g.Answer(0, mark(1, 5))
	g.Answer(1, mark(1, 5))
	says(t, "any order", g, wantsEnter(cut.Barrier{Id: 1, Name: "n", At: []uint64{5, 5, 0, math.MaxUint64, 0}}))
	g = gate.New(math.MaxInt, 1)
	is(t, "more than can be asked", g.Begin(1, "n"), api.OK)
	says(t, "more than can be asked", g, wantsCut(1, "n"))
}

func TestAnswersThatDontFit(t *testing.T) { // P20.2
	all := func(change func(a *shard.Answer)) []shard.Answer {
		var list []shard.Answer
		for id := range uint64(10) {
			a := mark(id, 77)
			change(&a)
			list = append(list, a)
		}
		return list
	}
	every := all(func(*shard.Answer) {})
	other := append(append([]shard.Answer{}, every[:7]...), every[8:]...)
	for kind := -1; kind <= shard.Copy+1; kind++ {
		if kind != shard.Mark {
			other = append(other, all(func(a *shard.Answer) { a.Kind = kind })...)
		}
	}
	for _, e := range []api.Errno{api.ErrFull, api.ErrOld, api.ErrStaleIncarnation, 99, -1} {
		other = append(other, all(func(a *shard.Answer) { a.Err = e })...)
	}
	tries := func(what string, g *gate.Gate, from []int, list []shard.Answer) {
		t.Helper()
		want := look(g)
		for _, at := range from {
			for _, a := range list {
				g.Answer(at, a)
				says(t, fmt.Sprintf("%s: Answer(%d, %+v)", what, at, a), g, want)
			}
		}
		ended(t, what, g)
	}
	anyone := []int{math.MinInt, -1, 0, 1, 2, 3, math.MaxInt}
	g := gate.New(3, 2)
	tries("open", g, anyone, every)
	g.Begin(7, "b")
	tries("ahead of its Cut", g, anyone, every)
	g.Logged(9)
	tries("no shard", g, []int{math.MinInt, -1, 3, math.MaxInt}, every)
	tries("not its Mark", g, anyone, other)
	g.Answer(1, mark(7, 4))
	tries("twice", g, []int{1}, every)
	tries("not its Mark", g, anyone, other)
	g.Answer(0, mark(7, 3))
	g.Answer(2, mark(7, 5))
	tries("all have answered", g, anyone, every)
	says(t, "the indexes are theirs", g, wantsEnter(cut.Barrier{Id: 7, Name: "b", At: []uint64{3, 4, 5, 9}}))
	g.Logged(10)
	g.Results()
	tries("open again", g, anyone, every)
	g.Begin(8, "c")
	tries("the next one, ahead of its Cut", g, anyone, every)
	g.Logged(11)
	tries("of the one ahead", g, anyone, []shard.Answer{mark(7, 3)})
	says(t, "the next one", g, waits(marks(8, "c", 0, 1, 2)))
}

func TestTick(t *testing.T) { // P20.1, P20.3
	failed := gate.Result{Id: 7, Name: "b", Err: api.ErrBarrierFailed}
	for patience, lasts := range map[int]int{4: 4, 2: 2, 1: 1, 0: 1, -1: 1, math.MinInt: 1} {
		g := gate.New(1, patience)
		ticks(g, 9)
		says(t, "open", g, isOpen())
		g.Begin(7, "b")
		ticks(g, 9)
		says(t, "ahead of its Cut", g, wantsCut(7, "b"))
		g.Logged(9)
		ticks(g, lasts-1)
		says(t, "a tick ahead", g, waits(marks(7, "b", 0)))
		g.Tick()
		says(t, "too late", g, isOpen())
		g.Answer(0, mark(7, 1))
		ticks(g, 9)
		says(t, "an answer behind", g, isOpen())
		ended(t, "too late", g, failed)
		g.Begin(7, "b")
		g.Logged(12)
		ticks(g, lasts-1)
		g.Answer(0, mark(7, 1))
		ticks(g, 9)
		says(t, "no answer is wanting", g, wantsEnter(cut.Barrier{Id: 7, Name: "b", At: []uint64{1, 12}}))
	}
	g := begun(t, 1, math.MaxInt)
	ticks(g, 100)
	says(t, "a long patience", g, waits(marks(7, "b", 0)))
}

func TestFail(t *testing.T) { // P20.1
	failed := gate.Result{Id: 7, Name: "b", Err: api.ErrBarrierFailed}
	g := gate.New(1, 2)
	g.Fail()
	says(t, "open", g, isOpen())
	ended(t, "open", g)
	fails := func(what string, g *gate.Gate) {
		t.Helper()
		g.Fail()
		says(t, what, g, isOpen())
		g.Fail()
		is(t, what, g.Logged(20), marks(0, ""))
		g.Answer(0, mark(7, 1))
		says(t, what, g, isOpen())
		ended(t, what, g, failed)
	}
	g.Begin(7, "b")
	fails("ahead of its Cut", g)
	fails("behind it", begun(t, 1, 2))
	g = begun(t, 1, 2)
	g.Answer(0, mark(7, 1))
	fails("it wants to be entered", g)
}

func TestLoggedThatWasntWanted(t *testing.T) { // P20.1
	g := gate.New(1, 2)
	is(t, "open", g.Logged(1), marks(0, ""))
	says(t, "open", g, isOpen())
	g = begun(t, 1, 2)
	g.Tick()
	is(t, "it waits", g.Logged(2), marks(0, ""))
	says(t, "it waits", g, waits(marks(7, "b", 0)))
	g.Answer(0, mark(7, 1))
	says(t, "the Cut's index", g, wantsEnter(cut.Barrier{Id: 7, Name: "b", At: []uint64{1, 9}}))
}

func TestResults(t *testing.T) { // P20.1: in order
	g := gate.New(1, 1)
	var want []gate.Result
	for id := range uint64(6) {
		name := string(rune('a' + id))
		g.Begin(id, name)
		g.Logged(id)
		switch id % 3 {
		case 0:
			g.Answer(0, mark(id, id))
			g.Logged(id)
			want = append(want, gate.Result{Id: id, Name: name})
			continue
		case 1:
			g.Tick()
		case 2:
			g.Fail()
		}
		want = append(want, gate.Result{Id: id, Name: name, Err: api.ErrBarrierFailed})
	}
	g.Begin(9, "under way")
	ended(t, "in order", g, want...)
}

// TestWithShards: the indexes are those at which the shards' logs have the marks.
func TestWithShards(t *testing.T) { // P20.2
	o := shard.Options{Options: store.Options{Hand: 4, Most: 300}, Patience: 3}
	var shards []*shard.Shard
	for at := range uint64(3) {
		d := drive.New(1 << 20)
		is(t, "Format", shard.Format(d, 1, o), api.OK)
		s, e := shard.Open(d, vault.Shelf{Vault: vault.New()}, o)
		is(t, "Open", e, api.OK)
		for id := range at {
			s.Do(shard.Ask{Kind: shard.Mark, Inc: 1, Id: 100 + id, Name: "ahead"})
		}
		shards = append(shards, s)
	}
	g := gate.New(3, 2)
	g.Begin(7, "b")
	for _, send := range append(g.Logged(9), g.Retry()...) {
		send.Ask.Inc = 1
		a, _ := shards[send.Shard].Do(send.Ask)
		g.Answer(send.Shard, a)
	}
	b, _ := g.Barrier()
	is(t, "the marks' indexes", b, cut.Barrier{Id: 7, Name: "b", At: []uint64{0, 1, 2, 9}})
	for at, s := range shards {
		stands, _ := s.Marked(7)
		is(t, "where it stands", stands, b.At[at])
	}
}
