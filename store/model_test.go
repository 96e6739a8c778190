package store_test

import (
	"math/rand"
	"slices"
	"testing"

	"groyne/api"
	"groyne/drive"
	"groyne/rec"
	"groyne/store"
)

// run is a store beside its state, on a drive that may be armed, or full.
type run struct {
	t     *testing.T
	rnd   *rand.Rand
	d     *drive.Drive
	o     store.Options
	s     *store.Store
	now   state
	kept  uint64         // what Keep was told last
	told  bool           // whether it was
	ample bool           // there is room for all
	long  int            // how long values are at most
	died  map[string]int // how often by what
	full  map[string]int // likewise
}

func (r *run) key() []byte {
	key := make([]byte, r.rnd.Intn(3))
	for i := range key {
		key[i] = byte('a' + r.rnd.Intn(6))
	}
	return key
}

func (r *run) ranges() []api.Range {
	var ranges []api.Range
	for range r.rnd.Intn(3) {
		from := r.key()
		to := append(slices.Clone(from), 0)
		switch r.rnd.Intn(30) {
		case 0:
			to = nil
		case 1:
			to = r.key() // may be out of form
		}
		ranges = append(ranges, api.Range{From: from, To: to, Excl: r.rnd.Intn(2) == 0})
	}
	return ranges
}

func (r *run) writes() []api.Write {
	var writes []api.Write
	for range r.rnd.Intn(4) {
		w := api.Write{Key: r.key(), Gone: r.rnd.Intn(4) == 0}
		if !w.Gone || r.rnd.Intn(4) == 0 {
			w.Value = make([]byte, r.rnd.Intn(r.long+1))
			r.rnd.Read(w.Value)
		}
		if r.rnd.Intn(60) == 0 {
			w.Value = make([]byte, api.MaxValue+1)
		}
		writes = append(writes, w)
	}
	return writes
}

// rec is a record that may or may not be done now; more often it may.
func (r *run) rec() rec.Rec {
	x := rec.Rec{Kind: r.rnd.Intn(5) + 1, Id: uint64(r.rnd.Intn(someMarks)), Name: "b", Ranges: r.ranges(), Writes: r.writes()}
	x.Reply = make([]byte, r.rnd.Intn(4))
	txns := some(12)
	x.Txn = txns[r.rnd.Intn(len(txns))]
	prepared := r.s.Prepared()
	if ends := x.Kind == rec.Commit || x.Kind == rec.Abort; ends && len(prepared) > 0 && r.rnd.Intn(8) > 0 {
		x.Txn = prepared[r.rnd.Intn(len(prepared))]
	}
	if x.Kind == rec.Mark && r.rnd.Intn(3) > 0 {
		x.Kind = rec.Prepare
	}
	if r.rnd.Intn(40) == 0 {
		x.Kind = r.rnd.Intn(300) - 20
	}
	return x
}

// append answers what the store may be behind a crash, if the drive died by it.
func (r *run) append() []state {
	may := []state{r.now}
	next, can := r.now.twin(), true
	var recs []rec.Rec
	for range r.rnd.Intn(4) {
		x := r.rec()
		recs = append(recs, x)
		can = can && next.done(x)
		may = append(may, next.twin())
	}
	at, e := r.s.Append(recs...)
	switch {
	case !can && e == api.ErrArg && at == 0:
	case can && e == api.OK && at == r.now.next:
		r.now = next
	case can && e == api.ErrDead && at == 0 && len(recs) > 0:
		return may
	case can && e == api.ErrFull && at == 0 && !r.ample:
		r.full["append"]++
	default:
		r.t.Fatalf("P13.1: Append(%v) = %d, %d; can %v", recs, at, e, can)
	}
	return nil
}

func (r *run) ask() {
	txns, ranges := some(12), r.ranges()
	x := txns[r.rnd.Intn(len(txns))]
	if _, known := r.now.last[x]; known || slices.ContainsFunc(ranges, wrongRange) {
		return
	}
	can := r.now.free(x, ranges)
	if e := r.s.Locks().Ask(x, ranges...); can != (e == api.OK) {
		r.t.Fatalf("P13.1: Ask: %d, can %v", e, can)
	}
	if can {
		r.now.hold(x, ranges)
	}
}

func (r *run) checkpoint() []state {
	spans := r.s.Log().Spans()
	switch e := r.s.Checkpoint(); {
	case e == api.ErrDead:
		return []state{r.now}
	case e == api.ErrFull && !r.ample:
		r.full["checkpoint"]++
	case e != api.OK:
		r.t.Fatalf("P13.3: Checkpoint: %d", e)
	default:
		for len(spans) > 1 && r.told && spans[0].To <= r.kept {
			spans = spans[1:]
		}
	}
	if got := r.s.Log().Spans(); !slices.Equal(got, spans) {
		r.t.Fatalf("P13.3: segments %v, want %v (kept from %d, %v)", got, spans, r.kept, r.told)
	}
	return nil
}

// turn does one call; it answers what the store may be behind a crash, if the drive died by it.
func (r *run) turn() (string, []state) {
	switch r.rnd.Intn(12) {
	case 0:
		return "checkpoint", r.checkpoint()
	case 1:
		r.kept, r.told = uint64(r.rnd.Intn(int(r.now.next)+3)), true
		r.s.Keep(r.kept)
	case 2:
		r.ask()
	case 3:
		r.d.Arm(-1) // a look may put pages away
		wantState(r.t, "P13.1", r.s, r.now)
	case 4:
		if r.rnd.Intn(4) == 0 {
			r.d.Crash(r.rnd.Intn(1000))
			return "idle", []state{r.now}
		}
	}
	return "append", r.append()
}

// reopen has the store anew, which must be one of these; now and then the drive dies by that, too.
func (r *run) reopen(may []state) {
	for r.rnd.Intn(3) == 0 {
		r.d.Arm(r.rnd.Intn(4))
		if _, e := store.Open(r.d, prefix, r.o); e != api.OK && e != api.ErrDead {
			r.t.Fatalf("P13.2: Open: %d", e)
		} else if e == api.ErrDead {
			r.died["open"]++
		}
		r.d.Crash(r.rnd.Intn(1000))
	}
	r.s, r.kept, r.told = opened(r.t, r.d, r.o), 0, false
	got := tell(r.t, r.s)
	i := slices.IndexFunc(may, func(m state) bool { return m.opened().tell() == got })
	if i < 0 {
		r.t.Fatalf("P13.2: opened anew it is none of those %d that it may be:\n%sthe last of them is\n%s", len(may), got, may[len(may)-1].opened().tell())
	}
	r.now = may[i].opened()
}

func begin(t *testing.T, seed int64, room int) *run {
	rnd := rand.New(rand.NewSource(seed))
	o := store.Options{Hand: rnd.Intn(6) - 1, Most: rnd.Intn(4) * 150}
	r := &run{t: t, rnd: rnd, d: drive.New(room), o: o, now: nothing(), ample: room >= 1<<20, long: 1 + rnd.Intn(api.MaxValue), died: map[string]int{}, full: map[string]int{}}
	r.s = opened(t, r.d, o)
	return r
}

// script does so many calls; some of them cut, if it is armed.
func (r *run) script(turns int, arms bool) {
	for range turns {
		if arms && r.rnd.Intn(4) == 0 {
			r.d.Arm(r.rnd.Intn(12))
		}
		what, may := r.turn()
		if may != nil {
			r.died[what]++
			r.d.Crash(r.rnd.Intn(1000))
			r.reopen(may)
		}
		r.d.Arm(-1)
	}
	wantState(r.t, "P13.1", r.s, r.now)
}

func TestScripts(t *testing.T) { // P13.1, P13.3
	committed := 0
	for seed := range int64(40) {
		r := begin(t, seed, 1<<20)
		r.script(120, false)
		committed += len(r.s.Committed())
	}
	if committed < 200 {
		t.Errorf("only %d transactions were committed", committed)
	}
}

func TestScriptsWithCrashes(t *testing.T) { // P13.2, P13.3
	died := map[string]int{}
	for seed := range int64(150) {
		r := begin(t, seed, 1<<20)
		r.script(120, true)
		for what, n := range r.died {
			died[what] += n
		}
	}
	for _, what := range []string{"append", "checkpoint", "open", "idle"} {
		if died[what] < 50 {
			t.Errorf("the drive died %d times by %s", died[what], what)
		}
	}
}

func TestScriptsOnFullDrives(t *testing.T) { // P13.5
	full := map[string]int{}
	for seed := range int64(150) {
		r := begin(t, seed, 200+int(seed)*40)
		r.script(150, seed%2 == 0)
		for what, n := range r.full {
			full[what] += n
		}
	}
	if full["append"] < 500 || full["checkpoint"] < 200 {
		t.Errorf("the drive was full for %d appends and %d checkpoints", full["append"], full["checkpoint"])
	}
}
