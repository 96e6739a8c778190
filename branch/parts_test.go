package branch_test

import (
	"fmt"
	"maps"
	"math"
	"math/rand"
	"slices"
	"strings"
	"testing"

	"groyne/api"
	"groyne/branch"
)

func tellParts(parts []branch.Part) string {
	var out []string
	for _, p := range parts {
		out = append(out, fmt.Sprintf("%d: %s %v", p.Shard, tellOps(p.Ops), p.Index))
	}
	return strings.Join(out, ", ")
}

func TestParts(t *testing.T) { // P12.5
	one, three := texts("m"), texts("b", "m", "x")
	for _, c := range []struct {
		splits [][]byte
		ops    []api.Op
		want   string
	}{
		{one, []api.Op{get("a"), scan("b", "z", 2)}, `0: (1 "a" "" 0)(4 "b" "m" 2) [0 1], 1: (4 "m" "z" 2) [1]`},
		{one, nil, ``},
		{nil, nil, ``},
		{nil, []api.Op{put("z", "1"), scan("", "", 3), get("")}, `0: (2 "z" "1" 0)(4 "" "" 3)(1 "" "" 0) [0 1 2]`},
		{one, []api.Op{put("m", "1"), expect("l\xff", "2"), del("m\x00"), absent("z")}, `0: (5 "l\xff" "2" 0) [1], 1: (2 "m" "1" 0)(3 "m\x00" "" 0)(6 "z" "" 0) [0 2 3]`},
		{one, []api.Op{scan("m", "n", 1), scan("l", "m", 1)}, `0: (4 "l" "m" 1) [1], 1: (4 "m" "n" 1) [0]`},
		{one, []api.Op{scan("l", "m\x00", 1)}, `0: (4 "l" "m" 1) [0], 1: (4 "m" "m\x00" 1) [0]`},
		{three, []api.Op{scan("", "", 32)}, `0: (4 "" "b" 32) [0], 1: (4 "b" "m" 32) [0], 2: (4 "m" "x" 32) [0], 3: (4 "x" "" 32) [0]`},
		{three, []api.Op{get("z"), scan("c", "n", 4), get("a")}, `0: (1 "a" "" 0) [2], 1: (4 "c" "m" 4) [1], 2: (4 "m" "n" 4) [1], 3: (1 "z" "" 0) [0]`},
		{three, []api.Op{scan("b", "b", 1), scan("z", "a", 1), scan("x", "m", 1)}, ``},
		{three, []api.Op{{Kind: 0, Key: []byte("a")}, {Kind: 9}, get("n")}, `2: (1 "n" "" 0) [2]`},
		{one, []api.Op{two(api.Get, "a", "x"), {Kind: api.Del, Key: []byte("z"), Most: 5}}, `0: (1 "a" "x" 0) [0], 1: (3 "z" "" 5) [1]`},
	} {
		if got := tellParts(branch.Parts(c.splits, c.ops...)); got != c.want {
			t.Errorf("P12.5: Parts(%q, %s) = %s, want %s", c.splits, tellOps(c.ops), got, c.want)
		}
	}
}

func pairs(keys string) []api.Pair {
	var out []api.Pair
	for _, k := range keys {
		out = append(out, api.Pair{Key: []byte(string(k)), Value: []byte("v")})
	}
	return out
}

func TestJoinRows(t *testing.T) { // P12.5
	ops := []api.Op{get("a"), scan("a", "", 3), put("z", "1"), scan("q", "a", 3)}
	parts := branch.Parts(texts("m"), ops...)
	first := branch.Outcome{Rows: [][]api.Pair{pairs("a"), pairs("ab")}, Writes: []api.Write{{Key: []byte("c"), Gone: true}, {Key: []byte("a")}}}
	second := branch.Outcome{Rows: [][]api.Pair{pairs("mno"), nil}, Writes: []api.Write{{Key: []byte("z")}, {Key: []byte("b")}}}
	for _, c := range []struct {
		what     string
		outcomes []branch.Outcome
		want     branch.Outcome
	}{
		{"both", []branch.Outcome{first, second}, branch.Outcome{
			Rows:   [][]api.Pair{pairs("a"), pairs("abm"), nil, nil},
			Writes: []api.Write{{Key: []byte("a")}, {Key: []byte("b")}, {Key: []byte("c"), Gone: true}, {Key: []byte("z")}}}},
		{"the first", []branch.Outcome{first}, branch.Outcome{
			Rows: [][]api.Pair{pairs("a"), pairs("ab"), nil, nil}, Writes: []api.Write{{Key: []byte("a")}, {Key: []byte("c"), Gone: true}}}},
		{"the second", []branch.Outcome{{}, second}, branch.Outcome{
			Rows: [][]api.Pair{nil, pairs("mno"), nil, nil}, Writes: []api.Write{{Key: []byte("b")}, {Key: []byte("z")}}}},
		{"wanting rows", []branch.Outcome{{Rows: first.Rows[:1]}, {Rows: second.Rows[:1]}}, branch.Outcome{
			Rows: [][]api.Pair{pairs("a"), pairs("mno"), nil, nil}}},
		{"none", nil, branch.Outcome{Rows: make([][]api.Pair, 4)}},
		{"one too many", []branch.Outcome{{}, {}, first, {Err: api.ErrGuard}}, branch.Outcome{Rows: make([][]api.Pair, 4)}},
	} {
		if got := branch.Join(ops, parts, c.outcomes...); tell(got) != tell(c.want) {
			t.Errorf("P12.5: Join of %s = %s, want %s", c.what, tell(got), tell(c.want))
		}
	}
	if got := branch.Join(nil, nil); tell(got) != tell(branch.Outcome{}) {
		t.Errorf("P12.5: Join of nothing = %s", tell(got))
	}
	if got := branch.Join([]api.Op{scan("b", "a", 1)}, nil); tell(got) != tell(branch.Outcome{Rows: make([][]api.Pair, 1)}) {
		t.Errorf("P12.5: Join without parts = %s", tell(got))
	}
}

func TestJoinErrors(t *testing.T) { // P12.5
	ops := []api.Op{get("z"), get("a"), scan("", "", 3), get("b"), get("x")}
	parts := branch.Parts(texts("m"), ops...) // 0: places 1, 2, 3; 1: places 0, 2, 4
	fail := func(e api.Errno, at int) branch.Outcome {
		return branch.Outcome{Err: e, At: at, Rows: [][]api.Pair{pairs("a")}, Writes: []api.Write{{Key: []byte("a")}}}
	}
	for _, c := range []struct {
		outcomes []branch.Outcome
		err      api.Errno
		at       int
	}{
		{[]branch.Outcome{fail(api.ErrGuard, 0)}, api.ErrGuard, 1},
		{[]branch.Outcome{fail(api.OK, 0), fail(api.ErrGuard, 2)}, api.ErrGuard, 4},
		{[]branch.Outcome{fail(api.ErrLocked, 0), fail(api.ErrGuard, 0)}, api.ErrGuard, 0},
		{[]branch.Outcome{fail(api.ErrLocked, 0), fail(api.ErrGuard, 1)}, api.ErrLocked, 1},
		{[]branch.Outcome{fail(api.ErrGuard, 2), fail(api.ErrLocked, 2)}, api.ErrGuard, 3},
		{[]branch.Outcome{fail(api.ErrGuard, 1), fail(api.ErrLocked, 1)}, api.ErrGuard, 2},
		{[]branch.Outcome{fail(api.ErrGuard, 3)}, api.ErrGuard, 0},
		{[]branch.Outcome{fail(api.ErrGuard, -1)}, api.ErrGuard, 0},
		{[]branch.Outcome{fail(api.ErrGuard, 0), fail(api.ErrDead, math.MaxInt)}, api.ErrDead, 0},
		{[]branch.Outcome{fail(api.ErrGuard, math.MinInt), fail(api.ErrDead, 0)}, api.ErrGuard, 0},
		{[]branch.Outcome{fail(-1, 0), fail(api.OK, 0)}, -1, 1},
	} {
		want := branch.Outcome{Err: c.err, At: c.at}
		if got := branch.Join(ops, parts, c.outcomes...); tell(got) != tell(want) {
			t.Errorf("P12.5: Join = %s, want %s", tell(got), tell(want))
		}
		// The least shard counts, wherever its part stands.
		if len(c.outcomes) == 2 {
			got := branch.Join(ops, []branch.Part{parts[1], parts[0]}, c.outcomes[1], c.outcomes[0])
			if tell(got) != tell(want) {
				t.Errorf("P12.5: Join the other way round = %s, want %s", tell(got), tell(want))
			}
		}
	}
}

// keysOf: the pairs of a shard.
func keysOf(state map[string]string, splits [][]byte, shard int) map[string]string {
	mine := maps.Clone(state)
	maps.DeleteFunc(mine, func(k, _ string) bool {
		return shard > 0 && k < string(splits[shard-1]) || shard < len(splits) && k >= string(splits[shard])
	})
	return mine
}

func someSplits(rnd *rand.Rand) [][]byte {
	var keys []string
	for range rnd.Intn(4) {
		if k := someKey(rnd); k != "" {
			keys = append(keys, k)
		}
	}
	slices.Sort(keys)
	return texts(slices.Compact(keys)...)
}

func TestInPartsAsInOnePiece(t *testing.T) { // P12.5
	rnd := rand.New(rand.NewSource(2))
	for range 20000 {
		splits, state, ops := someSplits(rnd), someState(rnd), someOps(rnd, api.MaxOps)
		if e := branch.Splits(splits...); e != api.OK {
			t.Fatalf("Splits(%q) = %d", splits, e)
		}
		bad := ""
		if rnd.Intn(4) == 0 {
			bad = someKey(rnd)
		}
		parts := branch.Parts(splits, ops...)
		var outcomes []branch.Outcome
		for i, p := range parts {
			if p.Shard < 0 || p.Shard > len(splits) || i > 0 && p.Shard <= parts[i-1].Shard || len(p.Ops) == 0 || len(p.Ops) != len(p.Index) || !slices.IsSorted(p.Index) {
				t.Fatalf("P12.5: Parts = %s", tellParts(parts))
			}
			mine := keysOf(state, splits, p.Shard)
			r := &table{pairs: mine, bad: bad}
			outcomes = append(outcomes, branch.Run(r, p.Ops...))
			// Nothing of another shard is touched.
			for _, lock := range branch.Locks(p.Ops...) {
				outside := shardOf(splits, string(lock.From)) != p.Shard ||
					p.Shard < len(splits) && (len(lock.To) == 0 || string(lock.To) > string(splits[p.Shard]))
				if outside {
					t.Fatalf("P12.5: shard %d of %q locks %s", p.Shard, splits, tellRanges([]api.Range{lock}))
				}
			}
		}
		got := branch.Join(ops, parts, outcomes...)
		want := branch.Run(&table{pairs: state, bad: bad}, ops...)
		if tell(got) != tell(want) {
			t.Fatalf("P12.5: %s in %s = %s, in one piece %s", tellOps(ops), tellParts(parts), tell(got), tell(want))
		}
	}
}

func shardOf(splits [][]byte, key string) int {
	shard := 0
	for shard < len(splits) && key >= string(splits[shard]) {
		shard++
	}
	return shard
}

// TestWhateverIsHandedIn: things that don't fit together; each call has to answer.
func TestWhateverIsHandedIn(t *testing.T) { // P1
	rnd := rand.New(rand.NewSource(6))
	number := func() int { return []int{math.MinInt, -1, 0, 1, 2, 3, 4, 33, math.MaxInt}[rnd.Intn(9)] }
	for range 20000 {
		ops := someOps(rnd, 20)
		for i := range ops {
			if rnd.Intn(4) == 0 {
				ops[i] = api.Op{Kind: number(), Key: []byte(someKey(rnd)), Value: make([]byte, rnd.Intn(200)), Most: number()}
			}
		}
		var splits [][]byte
		for range rnd.Intn(6) {
			splits = append(splits, []byte(someKey(rnd)))
		}
		branch.Splits(splits...)
		branch.Check(ops...)
		branch.Locks(ops...)
		branch.Run(&table{pairs: someState(rnd)}, ops...)
		parts := branch.Parts(splits, ops...)
		var outcomes []branch.Outcome
		for i := range parts {
			if rnd.Intn(2) == 0 {
				parts[i].Index = append(parts[i].Index, number(), number())
			}
			if rnd.Intn(2) == 0 {
				parts[i].Shard, parts[i].Ops = number(), nil
			}
			outcomes = append(outcomes, branch.Outcome{Err: api.Errno(rnd.Intn(2) * number()), At: number(), Rows: make([][]api.Pair, rnd.Intn(9))})
		}
		branch.Join(ops[:rnd.Intn(len(ops)+1)], parts, outcomes[:rnd.Intn(len(outcomes)+1)]...)
	}
}
