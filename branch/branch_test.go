package branch_test

import (
	"fmt"
	"math"
	"slices"
	"strings"
	"testing"

	"groyne/api"
	"groyne/branch"
)

func get(key string) api.Op        { return api.Op{Kind: api.Get, Key: []byte(key)} }
func put(key, value string) api.Op { return two(api.Put, key, value) }
func del(key string) api.Op        { return api.Op{Kind: api.Del, Key: []byte(key)} }
func expect(key, v string) api.Op  { return two(api.Expect, key, v) }
func absent(key string) api.Op     { return api.Op{Kind: api.Absent, Key: []byte(key)} }

func two(kind int, key, value string) api.Op {
	return api.Op{Kind: kind, Key: []byte(key), Value: []byte(value)}
}

func scan(from, to string, most int) api.Op {
	return api.Op{Kind: api.Scan, Key: []byte(from), Value: []byte(to), Most: most}
}

// The texts of answers, in which nil and empty lists are alike.

func tellRows(rows [][]api.Pair) string {
	var out strings.Builder
	for _, row := range rows {
		out.WriteString("[")
		for _, p := range row {
			fmt.Fprintf(&out, "(%q %q)", p.Key, p.Value)
		}
		out.WriteString("]")
	}
	return out.String()
}

func tellWrites(writes []api.Write) string {
	var out strings.Builder
	for _, w := range writes {
		fmt.Fprintf(&out, "(%q %q %v)", w.Key, w.Value, w.Gone)
	}
	return out.String()
}

func tell(o branch.Outcome) string {
	return fmt.Sprintf("%d at %d, rows %s, writes %s", o.Err, o.At, tellRows(o.Rows), tellWrites(o.Writes))
}

func tellOps(ops []api.Op) string {
	var out strings.Builder
	for _, op := range ops {
		fmt.Fprintf(&out, "(%d %q %q %d)", op.Kind, op.Key, op.Value, op.Most)
	}
	return out.String()
}

func tellRanges(ranges []api.Range) string {
	var out strings.Builder
	for _, r := range ranges {
		fmt.Fprintf(&out, "(%q %q %v)", r.From, r.To, r.Excl)
	}
	return out.String()
}

func TestCheck(t *testing.T) { // P12.1
	key, value := strings.Repeat("k", api.MaxKey), strings.Repeat("v", api.MaxValue)
	for _, c := range []struct {
		what string
		want api.Errno
		ops  []api.Op
	}{
		{"none", api.OK, nil},
		{"one of each", api.OK, []api.Op{get("a"), put("a", "1"), del("a"), scan("a", "b", 1), expect("a", "1"), absent("a")}},
		{"empty keys and values", api.OK, []api.Op{get(""), put("", ""), del(""), scan("", "", 32), expect("", ""), absent("")}},
		{"the longest", api.OK, []api.Op{get(key), put(key, value), del(key), scan(key, key, 32), expect(key, value), absent(key)}},
		{"as many as can be", api.OK, slices.Repeat([]api.Op{get("a")}, api.MaxOps)},
		{"one more", api.ErrSize, slices.Repeat([]api.Op{get("a")}, api.MaxOps+1)},
		{"Get's key", api.ErrSize, []api.Op{get(key + "k")}},
		{"Put's key", api.ErrSize, []api.Op{get("a"), put(key+"k", "")}},
		{"Del's key", api.ErrSize, []api.Op{del(key + "k")}},
		{"Scan's key", api.ErrSize, []api.Op{scan(key+"k", "", 1)}},
		{"Expect's key", api.ErrSize, []api.Op{expect(key+"k", "")}},
		{"Absent's key", api.ErrSize, []api.Op{absent(key + "k")}},
		{"Scan's end", api.ErrSize, []api.Op{scan("", key+"k", 1)}},
		{"Put's value", api.ErrSize, []api.Op{put("", value+"v")}},
		{"Expect's value", api.ErrSize, []api.Op{get("a"), expect("", value+"v")}},
		{"values that aren't used", api.OK, []api.Op{two(api.Get, "", value+"v"), two(api.Del, "", value+"v"), two(api.Absent, "", value+"v")}},
		{"Most that isn't used", api.OK, []api.Op{{Kind: api.Get, Most: -1}, {Kind: api.Put, Most: 99}}},
		{"kind 0", api.ErrForm, []api.Op{{}}},
		{"kind 7", api.ErrForm, []api.Op{get("a"), {Kind: 7}}},
		{"kind -1", api.ErrForm, []api.Op{{Kind: -1}}},
		{"the greatest kind", api.ErrForm, []api.Op{{Kind: math.MaxInt}}},
		{"Most 0", api.ErrArg, []api.Op{scan("", "", 0)}},
		{"Most 33", api.ErrArg, []api.Op{get("a"), scan("", "", api.MaxRows+1)}},
		{"Most -1", api.ErrArg, []api.Op{scan("", "", -1)}},
		{"a kind, then Most", api.ErrArg, []api.Op{{Kind: 9}, scan("a", "", 0)}},
		{"too long, then Most", api.ErrArg, []api.Op{get(key + "k"), scan("a", "", 0)}},
		{"Most of one that is too long", api.ErrArg, []api.Op{scan(key+"k", "", 0)}},
		{"too many, the last one's Most", api.ErrArg, append(slices.Repeat([]api.Op{get("a")}, api.MaxOps), scan("", "", 0))},
		{"a kind, then too long", api.ErrSize, []api.Op{{}, get(key + "k")}},
		{"too many of no kind", api.ErrSize, make([]api.Op, api.MaxOps+1)},
	} {
		if e := branch.Check(c.ops...); e != c.want {
			t.Errorf("P12.1: Check of %s = %d, want %d", c.what, e, c.want)
		}
		// A request that isn't in form is told as such, and reads nothing.
		if c.want != api.OK {
			if o := branch.Run(forbidden{t}, c.ops...); tell(o) != tell(branch.Outcome{Err: c.want}) {
				t.Errorf("P12.2: Run of %s = %s", c.what, tell(o))
			}
		}
	}
}

// forbidden is a reader that mustn't be asked.
type forbidden struct{ *testing.T }

func (f forbidden) Scan(from, to []byte, most int) ([]api.Pair, api.Errno) {
	f.Errorf("read from %q to %q", from, to)
	return nil, api.ErrDead
}

func TestLocks(t *testing.T) { // P12.1
	key := strings.Repeat("k", api.MaxKey)
	for _, c := range []struct {
		ops  []api.Op
		want string
	}{
		{nil, ``},
		{[]api.Op{get("a")}, `("a" "a\x00" false)`},
		{[]api.Op{expect("a", "z")}, `("a" "a\x00" false)`},
		{[]api.Op{absent("a")}, `("a" "a\x00" false)`},
		{[]api.Op{put("a", "z")}, `("a" "a\x00" true)`},
		{[]api.Op{del("a")}, `("a" "a\x00" true)`},
		{[]api.Op{get(""), put("", "")}, `("" "\x00" false)("" "\x00" true)`},
		{[]api.Op{get("a"), get("a")}, `("a" "a\x00" false)("a" "a\x00" false)`},
		{[]api.Op{put("b", ""), get("a")}, `("b" "b\x00" true)("a" "a\x00" false)`},
		{[]api.Op{scan("a", "c", 1)}, `("a" "c" false)`},
		{[]api.Op{scan("a", "", 32)}, `("a" "" false)`},
		{[]api.Op{scan("", "", 1)}, `("" "" false)`},
		{[]api.Op{scan("", "\x00", 1)}, `("" "\x00" false)`},
		{[]api.Op{scan("a", "a", 1), scan("b", "a", 1), scan("a\x00", "a", 1)}, ``},
		{[]api.Op{get(key)}, fmt.Sprintf(`(%q %q false)`, key, key+"\x00")},
		{[]api.Op{{Kind: 0, Key: []byte("a")}, {Kind: 7}, {Kind: -1}, get("a")}, `("a" "a\x00" false)`},
		{[]api.Op{scan("a", "c", 0), get(key + key)}, fmt.Sprintf(`("a" "c" false)(%q %q false)`, key+key, key+key+"\x00")},
	} {
		if got := tellRanges(branch.Locks(c.ops...)); got != c.want {
			t.Errorf("P12.1: Locks(%s) = %s, want %s", tellOps(c.ops), got, c.want)
		}
	}
}

func TestSplits(t *testing.T) { // P12.5
	key := strings.Repeat("k", api.MaxKey)
	for _, c := range []struct {
		splits []string
		want   api.Errno
	}{
		{nil, api.OK},
		{[]string{"m"}, api.OK},
		{[]string{"\x00"}, api.OK},
		{[]string{"a", "aa", key}, api.OK},
		{[]string{"a", "b", "c", "d"}, api.ErrSize},
		{[]string{"d", "c", "b", "a"}, api.ErrSize},
		{[]string{key + "k"}, api.ErrSize},
		{[]string{"", key + "k"}, api.ErrSize},
		{[]string{""}, api.ErrForm},
		{[]string{"", "a"}, api.ErrForm},
		{[]string{"a", ""}, api.ErrForm},
		{[]string{"a", "a"}, api.ErrForm},
		{[]string{"b", "a"}, api.ErrForm},
		{[]string{"a", "c", "b"}, api.ErrForm},
	} {
		if e := branch.Splits(texts(c.splits...)...); e != c.want {
			t.Errorf("P12.5: Splits(%q) = %d, want %d", c.splits, e, c.want)
		}
	}
}

func texts(list ...string) [][]byte {
	var out [][]byte
	for _, s := range list {
		out = append(out, []byte(s))
	}
	return out
}
