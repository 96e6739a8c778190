package branch_test

import (
	"maps"
	"math/rand"
	"slices"
	"strconv"
	"strings"
	"testing"

	"groyne/api"
	"groyne/branch"
	"groyne/btree"
	"groyne/drive"
	"groyne/lock"
	"groyne/pages"
)

// table is a reader over a map. It keeps which ranges it was asked for, and answers an error for those that have a bad key.
type table struct {
	pairs map[string]string
	bad   string
	asked []api.Range
}

func (r *table) Scan(from, to []byte, most int) ([]api.Pair, api.Errno) {
	r.asked = append(r.asked, api.Range{From: slices.Clone(from), To: slices.Clone(to)})
	in := func(k string) bool { return k >= string(from) && (len(to) == 0 || k < string(to)) }
	if r.bad != "" && in(r.bad) {
		return nil, api.ErrDead
	}
	var pairs []api.Pair
	for _, k := range slices.Sorted(maps.Keys(r.pairs)) {
		if in(k) && (most < 1 || len(pairs) < most) {
			pairs = append(pairs, api.Pair{Key: []byte(k), Value: []byte(r.pairs[k])})
		}
	}
	return pairs, api.OK
}

// plainly does a request upon a map, which it changes, as the table of kinds has it.
func plainly(state map[string]string, ops []api.Op) branch.Outcome {
	o := branch.Outcome{Rows: make([][]api.Pair, len(ops))}
	written := map[string]api.Write{}
	for i, op := range ops {
		key := string(op.Key)
		value, there := state[key]
		held := true
		switch op.Kind {
		case api.Get:
			if there {
				o.Rows[i] = []api.Pair{{Key: op.Key, Value: []byte(value)}}
			}
		case api.Put:
			state[key] = string(op.Value)
			written[key] = api.Write{Key: op.Key, Value: op.Value}
		case api.Del:
			delete(state, key)
			written[key] = api.Write{Key: op.Key, Gone: true}
		case api.Scan:
			o.Rows[i], _ = (&table{pairs: state}).Scan(op.Key, op.Value, op.Most)
		case api.Expect:
			held = there && value == string(op.Value)
		case api.Absent:
			held = !there
		}
		if !held {
			return branch.Outcome{Err: api.ErrGuard, At: i}
		}
	}
	for _, key := range slices.Sorted(maps.Keys(written)) {
		o.Writes = append(o.Writes, written[key])
	}
	return o
}

func TestRun(t *testing.T) { // P12.2
	for _, c := range []struct {
		pairs string // keys of one byte; each has its place as its value
		ops   []api.Op
		want  string
	}{
		{"", nil, `0 at 0, rows , writes `},
		{"", []api.Op{put("a", "1"), get("a")}, `0 at 0, rows [][("a" "1")], writes ("a" "1" false)`},
		{"a", []api.Op{absent("a"), put("a", "1")}, `12 at 0, rows , writes `},
		{"ab", []api.Op{get("a"), get("c"), get("b")}, `0 at 0, rows [("a" "0")][][("b" "1")], writes `},
		{"a", []api.Op{del("a"), get("a"), absent("a")}, `0 at 0, rows [][][], writes ("a" "" true)`},
		{"", []api.Op{del("a")}, `0 at 0, rows [], writes ("a" "" true)`},
		{"a", []api.Op{del("a"), put("a", "9"), get("a")}, `0 at 0, rows [][][("a" "9")], writes ("a" "9" false)`},
		{"a", []api.Op{put("a", "9"), del("a"), get("a")}, `0 at 0, rows [][][], writes ("a" "" true)`},
		{"", []api.Op{put("c", "1"), put("a", "2"), put("b", "3"), put("c", "4")}, `0 at 0, rows [][][][], writes ("a" "2" false)("b" "3" false)("c" "4" false)`},
		{"a", []api.Op{expect("a", "0"), put("a", "1"), expect("a", "1"), expect("a", "0"), get("a")}, `12 at 3, rows , writes `},
		{"a", []api.Op{put("b", "9"), absent("c"), absent("b")}, `12 at 2, rows , writes `},
		{"", []api.Op{put("a", ""), get("a"), expect("a", "")}, `0 at 0, rows [][("a" "")][], writes ("a" "" false)`},
		{"", []api.Op{expect("a", "")}, `12 at 0, rows , writes `},
		{"", []api.Op{put("a", ""), absent("a")}, `12 at 1, rows , writes `},
		{"a", []api.Op{expect("a", "00")}, `12 at 0, rows , writes `},
		{"abcd", []api.Op{scan("b", "d", 9), scan("b", "", 2), scan("", "c", 9)}, `0 at 0, rows [("b" "1")("c" "2")][("b" "1")("c" "2")][("a" "0")("b" "1")], writes `},
		{"abcd", []api.Op{scan("b", "b", 9), scan("c", "b", 9), scan("e", "", 9)}, `0 at 0, rows [][][], writes `},
		{"abcd", []api.Op{del("a"), del("b"), scan("", "", 2)}, `0 at 0, rows [][][("c" "2")("d" "3")], writes ("a" "" true)("b" "" true)`},
		{"bd", []api.Op{put("c", "x"), put("a", "y"), put("d", "z"), scan("", "", 3), scan("b", "d", 3)}, `0 at 0, rows [][][][("a" "y")("b" "0")("c" "x")][("b" "0")("c" "x")], writes ("a" "y" false)("c" "x" false)("d" "z" false)`},
		{"a", []api.Op{two(api.Get, "a", "x"), two(api.Del, "a", "x"), two(api.Absent, "a", "x")}, `0 at 0, rows [("a" "0")][][], writes ("a" "" true)`},
	} {
		state := map[string]string{}
		for i, k := range strings.Split(c.pairs, "") {
			state[k] = strconv.Itoa(i)
		}
		if got := tell(branch.Run(&table{pairs: state}, c.ops...)); got != c.want {
			t.Errorf("P12.2: Run(%s) upon %q = %s, want %s", tellOps(c.ops), c.pairs, got, c.want)
		}
	}
}

func TestRunUponNoReader(t *testing.T) { // P12.2
	got := tell(branch.Run(nil, absent("a"), put("a", "1"), scan("", "", 9)))
	if want := `0 at 0, rows [][][("a" "1")], writes ("a" "1" false)`; got != want {
		t.Errorf("P12.2: Run upon nothing = %s", got)
	}
}

func TestRunReaderFails(t *testing.T) { // P12.2
	pairs := map[string]string{"a": "1", "b": "2", "c": "3"}
	for _, c := range []struct {
		ops []api.Op
		at  int
	}{
		{[]api.Op{get("b")}, 0},
		{[]api.Op{get("a"), put("z", "1"), get("b"), get("c")}, 2},
		{[]api.Op{get("a"), expect("b", "2")}, 1},
		{[]api.Op{get("a"), absent("b")}, 1},
		{[]api.Op{scan("", "b", 9), scan("b\x00", "", 9), scan("", "", 9)}, 2},
	} {
		got := branch.Run(&table{pairs: pairs, bad: "b"}, c.ops...)
		if tell(got) != tell(branch.Outcome{Err: api.ErrDead, At: c.at}) {
			t.Errorf("P12.2: Run(%s) upon a bad b = %s", tellOps(c.ops), tell(got))
		}
	}
	// A guard ahead of the error is told, and so is an error ahead of a guard.
	if o := branch.Run(&table{pairs: pairs, bad: "b"}, absent("a"), get("b")); o.Err != api.ErrGuard || o.At != 0 {
		t.Errorf("P12.2: a guard ahead = %s", tell(o))
	}
	if o := branch.Run(&table{pairs: pairs, bad: "b"}, get("b"), absent("a")); o.Err != api.ErrDead || o.At != 0 {
		t.Errorf("P12.2: a guard behind = %s", tell(o))
	}
	ops := []api.Op{put("b", "1"), del("c"), scan("b", "a", 1)}
	if o := branch.Run(&table{bad: "b"}, ops...); o.Err != api.OK || len(o.Writes) != 2 {
		t.Errorf("P12.2: what needs no reader = %s", tell(o))
	}
}

func TestRunUponTree(t *testing.T) { // P12.2
	d := drive.New(1 << 20)
	p, _, _ := pages.Open(d, "t/", 4)
	tree, e := btree.New(p)
	if e != api.OK {
		t.Fatal(e)
	}
	rnd := rand.New(rand.NewSource(3))
	state := map[string]string{}
	for range 500 {
		ops := someOps(rnd, 8)
		ahead := maps.Clone(state)
		want := plainly(state, ops)
		got := branch.Run(tree, ops...)
		if tell(got) != tell(want) {
			t.Fatalf("P12.2: Run(%s) = %s, want %s", tellOps(ops), tell(got), tell(want))
		}
		if got.Err != api.OK {
			state = ahead
		}
		if e := tree.Apply(got.Writes...); e != api.OK {
			t.Fatal(e)
		}
	}
}

// someKey: few and short ones, so that ops meet.
func someKey(rnd *rand.Rand) string {
	b := make([]byte, rnd.Intn(3))
	for i := range b {
		b[i] = "\x00ab\xff"[rnd.Intn(4)]
	}
	return string(b)
}

// someOps: a request that is in form. Guards are rarer, lest most requests end at one.
func someOps(rnd *rand.Rand, most int) []api.Op {
	var ops []api.Op
	value := func() string { return strconv.Itoa(rnd.Intn(2)) }
	for range rnd.Intn(most + 1) {
		switch rnd.Intn(10) {
		case 0, 1:
			ops = append(ops, get(someKey(rnd)))
		case 2, 3:
			ops = append(ops, put(someKey(rnd), value()))
		case 4, 5:
			ops = append(ops, del(someKey(rnd)))
		case 6, 7:
			ops = append(ops, scan(someKey(rnd), someKey(rnd), 1+rnd.Intn(4)))
		case 8:
			ops = append(ops, expect(someKey(rnd), value()))
		case 9:
			ops = append(ops, absent(someKey(rnd)))
		}
	}
	return ops
}

func someState(rnd *rand.Rand) map[string]string {
	state := map[string]string{}
	for range rnd.Intn(20) {
		state[someKey(rnd)] = strconv.Itoa(rnd.Intn(2))
	}
	return state
}

func TestRunAndItsLocks(t *testing.T) { // P12.2, P12.3
	rnd := rand.New(rand.NewSource(1))
	done := 0
	for range 20000 {
		state, ops := someState(rnd), someOps(rnd, api.MaxOps)
		r := &table{pairs: maps.Clone(state)}
		got := branch.Run(r, ops...)
		if want := plainly(state, ops); tell(got) != tell(want) {
			t.Fatalf("P12.2: Run(%s) = %s, want %s", tellOps(ops), tell(got), tell(want))
		}
		locks := branch.Locks(ops...)
		for _, read := range r.asked {
			if !slices.ContainsFunc(locks, func(l api.Range) bool { return lock.Covers(l, read) }) {
				t.Fatalf("P12.3: Run(%s) read %s", tellOps(ops), tellRanges([]api.Range{read}))
			}
		}
		for _, w := range got.Writes {
			alone := api.Range{From: w.Key, To: append(slices.Clone(w.Key), 0), Excl: true}
			if !slices.ContainsFunc(locks, func(l api.Range) bool { return lock.Covers(l, alone) }) {
				t.Fatalf("P12.3: Run(%s) wrote %q", tellOps(ops), w.Key)
			}
		}
		if got.Err == api.OK {
			done++
		}
	}
	if done < 5000 {
		t.Errorf("only %d requests went to their end", done)
	}
}
