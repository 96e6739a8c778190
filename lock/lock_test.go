package lock_test

import (
	"bytes"
	"fmt"
	"math"
	"math/rand"
	"slices"
	"strings"
	"testing"

	"groyne/api"
	"groyne/lock"
)

func txn(n uint64) api.Txn { return api.Txn{Boot: 1, Session: n, Seq: 1} }

func shared(from, to string) api.Range {
	return api.Range{From: []byte(from), To: []byte(to)}
}

func excl(from, to string) api.Range {
	return api.Range{From: []byte(from), To: []byte(to), Excl: true}
}

// tell: ranges as text, in which nil and empty ends are alike.
func tell(ranges []api.Range) string {
	var out []string
	for _, r := range ranges {
		out = append(out, fmt.Sprintf("%q-%q %v", r.From, r.To, r.Excl))
	}
	return strings.Join(out, ", ")
}

func holds(t *testing.T, l *lock.Table, x api.Txn, want ...api.Range) {
	t.Helper()
	if got := l.Held(x); tell(got) != tell(want) {
		t.Errorf("P11.1: %v holds %s, want %s", x, tell(got), tell(want))
	}
}

func are(t *testing.T, what string, got []api.Txn, want ...api.Txn) {
	t.Helper()
	if !slices.Equal(got, want) {
		t.Errorf("%s = %v, want %v", what, got, want)
	}
}

func answers(t *testing.T, what string, got, want api.Errno) {
	t.Helper()
	if got != want {
		t.Errorf("%s: %d, want %d", what, got, want)
	}
}

func TestExample(t *testing.T) { // P11.1, P11.3
	var l lock.Table
	answers(t, "1", l.Ask(txn(1), shared("a", "c")), api.OK)
	answers(t, "2", l.Ask(txn(2), shared("b", "d")), api.OK)
	answers(t, "3", l.Ask(txn(3), excl("b", "c")), api.ErrLocked)
	are(t, "Rivals", l.Rivals(txn(3), excl("b", "c")), txn(1), txn(2))
	are(t, "All", l.All(), txn(1), txn(2))
	if n := l.Release(txn(1), txn(2), txn(3)); n != 2 {
		t.Errorf("Release = %d", n)
	}
	answers(t, "3 again", l.Ask(txn(3), excl("b", "c")), api.OK)
	are(t, "All", l.All(), txn(3))
}

func TestZeroTable(t *testing.T) { // P11.1
	var l lock.Table
	if l.Release() != 0 || l.Release(txn(1), txn(2)) != 0 || len(l.Held(txn(1))) != 0 || len(l.All()) != 0 || len(l.Rivals(txn(1), excl("", ""))) != 0 {
		t.Error("P11.1: the zero Table has locks")
	}
}

func TestNoRanges(t *testing.T) { // P11.1
	var l lock.Table
	answers(t, "nothing", l.Ask(txn(2)), api.OK)
	answers(t, "nothing", l.Ask(api.Txn{}), api.OK)
	holds(t, &l, txn(2))
	are(t, "All", l.All(), api.Txn{}, txn(2))
	answers(t, "everything", l.Ask(txn(1), excl("", "")), api.OK)
	answers(t, "nothing besides", l.Ask(txn(3)), api.OK)
	if n := l.Release(txn(2), txn(3), txn(9)); n != 2 {
		t.Errorf("Release = %d", n)
	}
	are(t, "All", l.All(), api.Txn{}, txn(1))
}

func TestReleaseTwice(t *testing.T) { // P11.1
	var l lock.Table
	l.Ask(txn(1), excl("a", "b"))
	if n := l.Release(txn(1), txn(1)); n != 1 {
		t.Errorf("Release of one, named twice = %d", n)
	}
	if n := l.Release(txn(1)); n != 0 {
		t.Errorf("Release of one that holds nothing = %d", n)
	}
	holds(t, &l, txn(1))
}

func TestCoveredAreNotKept(t *testing.T) { // P11.1
	var l lock.Table
	x := txn(1)
	l.Ask(x, shared("b", "c"))
	l.Ask(x, shared("b", "c"), shared("b", "bb"))
	holds(t, &l, x, shared("b", "c"))
	l.Ask(x, excl("b", "bb"))
	holds(t, &l, x, shared("b", "c"), excl("b", "bb"))
	// What was kept stays when something that covers it comes.
	l.Ask(x, excl("a", ""), shared("x", "y"), excl("z", ""))
	holds(t, &l, x, shared("b", "c"), excl("b", "bb"), excl("a", ""))
	// Two together may have all keys of a third one, which is kept nonetheless.
	y := api.Txn{}
	l.Ask(y, shared("", "1"), shared("1", "2"), shared("0", "2"))
	holds(t, &l, y, shared("", "1"), shared("1", "2"), shared("0", "2"))
}

func TestAskErrors(t *testing.T) { // P11.1
	long := strings.Repeat("k", api.MaxKey+2)
	longest := long[:api.MaxKey+1]
	many := slices.Repeat([]api.Range{shared("m", "n")}, 65)
	for _, c := range []struct {
		what   string
		ranges []api.Range
		want   api.Errno
	}{
		{"ends as long as can be", []api.Range{shared(longest, longest[1:]+"l")}, api.OK},
		{"From too long", []api.Range{shared(long, "")}, api.ErrSize},
		{"To too long", []api.Range{shared("", long)}, api.ErrSize},
		{"64 ranges", many[:64], api.OK},
		{"65 ranges", many, api.ErrSize},
		{"To is From", []api.Range{shared("b", "b")}, api.ErrForm},
		{"To below From", []api.Range{shared("b", "a")}, api.ErrForm},
		{"the last one isn't in form", []api.Range{shared("a", "b"), shared("b", "b")}, api.ErrForm},
		{"too long and not in form", []api.Range{shared(long, "a")}, api.ErrSize},
		{"not in form, then too long", []api.Range{shared("b", "a"), shared(long, "")}, api.ErrSize},
		{"65 ranges that clash", slices.Repeat([]api.Range{excl("x", "y")}, 65), api.ErrSize},
		{"a clash, then too long", []api.Range{excl("x", "y"), shared("", long)}, api.ErrSize},
		{"a clash, then not in form", []api.Range{excl("x", "y"), shared("b", "a")}, api.ErrForm},
		{"a clash", []api.Range{excl("x", "y")}, api.ErrLocked},
		{"the last one clashes", []api.Range{shared("a", "b"), excl("w", "")}, api.ErrLocked},
		{"a clash with the other's Excl", []api.Range{shared("z", "")}, api.ErrLocked},
		{"none at the ends", []api.Range{excl("w", "x"), excl("y", "z")}, api.OK},
	} {
		var l lock.Table
		l.Ask(txn(1), shared("x", "y"), excl("z", "z0"))
		l.Ask(txn(2), shared("q", "r"))
		answers(t, "P11.1: "+c.what, l.Ask(txn(2), c.ranges...), c.want)
		answers(t, "P11.1: a new one: "+c.what, l.Ask(txn(3), c.ranges...), again(c.want, c.ranges))
		if c.want != api.OK {
			holds(t, &l, txn(2), shared("q", "r"))
			are(t, "P11.1: All beside an error", l.All(), txn(1), txn(2))
		}
	}
}

// again: what a second transaction is answered, if the first one got its ranges.
func again(first api.Errno, ranges []api.Range) api.Errno {
	if first == api.OK && slices.ContainsFunc(ranges, func(r api.Range) bool { return r.Excl }) {
		return api.ErrLocked
	}
	return first
}

func TestRivals(t *testing.T) { // P11.3
	var l lock.Table
	l.Ask(txn(3), shared("a", "c"), shared("x", ""))
	l.Ask(txn(1), shared("b", "d"))
	l.Ask(txn(2), excl("m", "n"))
	l.Ask(txn(4))
	everything := excl("", "")
	are(t, "all", l.Rivals(txn(9), everything), txn(1), txn(2), txn(3))
	are(t, "all, each once", l.Rivals(txn(9), everything, everything), txn(1), txn(2), txn(3))
	are(t, "all but itself", l.Rivals(txn(2), everything), txn(1), txn(3))
	are(t, "of shared ones", l.Rivals(txn(9), shared("", "")), txn(2))
	are(t, "of none", l.Rivals(txn(9)))
	are(t, "at the ends", l.Rivals(txn(9), excl("d", "m"), excl("n", "x")))
	are(t, "not in form", l.Rivals(txn(9), excl("b", "b"), excl("z", "a"), excl("a", strings.Repeat("z", 66))))
	are(t, "not in form, and one that is", l.Rivals(txn(9), excl("b", "b"), excl("c", "")), txn(1), txn(2), txn(3))
	are(t, "more than can be asked for", l.Rivals(txn(9), append(slices.Repeat([]api.Range{shared("", "a")}, 99), excl("c", "d"))...), txn(1))
}

func TestCompare(t *testing.T) { // P11.4
	rising := []api.Txn{
		{}, {Seq: 1}, {Seq: math.MaxUint64}, {Session: 1}, {Session: 1, Seq: 2}, {Session: math.MaxUint64, Seq: 1},
		{Boot: 1}, {Boot: 1, Seq: 9}, {Boot: 1, Session: 1}, {Boot: 2}, {Boot: 1 << 63, Session: 3}, {Boot: math.MaxUint64},
	}
	for i, a := range rising {
		for j, b := range rising {
			want := min(max(i-j, -1), 1)
			if got := lock.Compare(a, b); got != want {
				t.Errorf("P11.4: Compare(%v, %v) = %d", a, b, got)
			}
		}
	}
	var l lock.Table
	for _, i := range rand.New(rand.NewSource(1)).Perm(len(rising)) {
		l.Ask(rising[i])
	}
	are(t, "P11.1: All", l.All(), rising...)
}

// ends: some that keys may have, the longest ones and those that lie close together too.
func ends() []string {
	longest := strings.Repeat("b", api.MaxKey+1)
	return []string{"", "\x00", "a", "a\x00", "aa", "b", longest, longest[:64] + "c", longest + "b", "c", "\xff"}
}

// keysOf: which of all ends are keys of a range. Two ranges in form that aren't alike differ in one of their ends, so these are enough to tell.
func keysOf(r api.Range) []string {
	var keys []string
	for _, k := range ends() {
		if k >= string(r.From) && (len(r.To) == 0 || k < string(r.To)) {
			keys = append(keys, k)
		}
	}
	return keys
}

func inForm(r api.Range) bool {
	return len(r.From) <= 65 && len(r.To) <= 65 && (len(r.To) == 0 || bytes.Compare(r.From, r.To) < 0)
}

func everyRange() []api.Range {
	var list []api.Range
	for _, from := range ends() {
		for _, to := range ends() {
			list = append(list, shared(from, to), excl(from, to))
		}
	}
	return list
}

func TestClashAndCovers(t *testing.T) { // P11.4
	for _, a := range everyRange() {
		for _, b := range everyRange() {
			clash, covers := clashes(a, b), false
			if inForm(a) && inForm(b) {
				in := func(k string) bool { return slices.Contains(keysOf(a), k) }
				covers = (a.Excl || !b.Excl) && !slices.ContainsFunc(keysOf(b), func(k string) bool { return !in(k) })
			}
			if lock.Clash(a, b) != clash {
				t.Errorf("P11.4: Clash(%s) = %v", tell([]api.Range{a, b}), !clash)
			}
			if lock.Covers(a, b) != covers {
				t.Errorf("P11.4: Covers(%s) = %v", tell([]api.Range{a, b}), !covers)
			}
		}
	}
	all := api.Range{}
	if !lock.Covers(all, all) || !lock.Covers(excl("", ""), all) || lock.Covers(all, excl("", "")) || lock.Clash(all, all) {
		t.Error("P11.4: the range of all keys")
	}
}

// clashes: by the words, key by key.
func clashes(a, b api.Range) bool {
	in := func(k string) bool { return slices.Contains(keysOf(b), k) }
	return inForm(a) && inForm(b) && (a.Excl || b.Excl) && slices.ContainsFunc(keysOf(a), in)
}
