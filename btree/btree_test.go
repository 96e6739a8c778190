package btree_test

import (
	"bytes"
	"math"
	"slices"
	"strings"
	"testing"

	"groyne/api"
	"groyne/btree"
	"groyne/drive"
	"groyne/leaf"
	"groyne/pages"
)

const prefix = "tree/"

func pool(t *testing.T, d *drive.Drive, hand int) *pages.Pool {
	t.Helper()
	p, _, e := pages.Open(d, prefix, hand)
	if e != api.OK {
		t.Fatalf("Open: %v", e)
	}
	return p
}

// empty is an empty tree that is alone in a pool with ample room.
func empty(t *testing.T, hand int) *btree.Tree {
	t.Helper()
	x, e := btree.New(pool(t, drive.New(1<<24), hand))
	if e != api.OK {
		t.Fatalf("New: %v", e)
	}
	return x
}

func put(key, value string) api.Write { return api.Write{Key: []byte(key), Value: []byte(value)} }

func gone(key string) api.Write { return api.Write{Key: []byte(key), Gone: true} }

func apply(t *testing.T, x *btree.Tree, writes ...api.Write) {
	t.Helper()
	if e := x.Apply(writes...); e != api.OK {
		t.Fatalf("Apply: %v", e)
	}
}

// told are pairs as text.
func told(pairs []api.Pair) string {
	var out []string
	for _, p := range pairs {
		out = append(out, string(p.Key)+"="+string(p.Value))
	}
	return strings.Join(out, " ")
}

func scanned(t *testing.T, x *btree.Tree, from, to string, most int) string {
	t.Helper()
	pairs, e := x.Scan([]byte(from), []byte(to), most)
	if e != api.OK {
		t.Fatalf("Scan: %v", e)
	}
	return told(pairs)
}

func want(t *testing.T, x *btree.Tree, pairs string) {
	t.Helper()
	if got := scanned(t, x, "", "", 0); got != pairs {
		t.Errorf("it has %q, want %q", got, pairs)
	}
}

// sound looks whether a tree that is alone in its pool is as it should be.
func sound(t *testing.T, x *btree.Tree) {
	t.Helper()
	if e := x.Check(); e != api.OK {
		t.Fatalf("Check: %v", e)
	}
	list, e := x.Pages()
	if e != api.OK || !slices.Equal(list, x.Ids()) {
		t.Fatalf("Pages = %v, %v; the pool has %v", list, e, x.Ids())
	}
	if !slices.Contains(list, x.Root()) {
		t.Fatalf("the root %d is none of the pages %v", x.Root(), list)
	}
}

func depth(t *testing.T, x *btree.Tree) int {
	t.Helper()
	n, e := x.Depth()
	if e != api.OK {
		t.Fatalf("Depth: %v", e)
	}
	return n
}

func TestExamples(t *testing.T) { // P9.1
	x := empty(t, 2)
	if n, e := x.Len(); n != 0 || e != api.OK {
		t.Errorf("Len = %d, %v", n, e)
	}
	if n := depth(t, x); n != 1 {
		t.Errorf("Depth = %d", n)
	}
	sound(t, x)
	want(t, x, "")
	apply(t, x, put("b", "2"), put("a", "1"))
	want(t, x, "a=1 b=2")
	apply(t, x, gone("a"))
	if v, there, e := x.Get([]byte("a")); v != nil || there || e != api.OK {
		t.Errorf("Get(a) = %q, %v, %v", v, there, e)
	}
	if v, there, e := x.Get([]byte("b")); string(v) != "2" || !there || e != api.OK {
		t.Errorf("Get(b) = %q, %v, %v", v, there, e)
	}
	if e := x.Apply(api.Write{Key: make([]byte, 65)}); e != api.ErrSize {
		t.Errorf("a key of 65 bytes: %v", e)
	}
}

func TestApply(t *testing.T) { // P9.1
	x := empty(t, 2)
	apply(t, x)
	want(t, x, "")
	apply(t, x, put("a", "1"), put("a", "2"), put("b", "1"), gone("b"), gone("c"), put("c", "3"), put("", "0"))
	want(t, x, "=0 a=2 c=3")
	apply(t, x, put("a", ""), gone(""))
	want(t, x, "a= c=3")
	if v, there, e := x.Get([]byte("a")); len(v) != 0 || !there || e != api.OK {
		t.Errorf("an empty value: %q, %v, %v", v, there, e)
	}
	apply(t, x, gone("a"), gone("a"), gone("c"))
	want(t, x, "")
	apply(t, x, api.Write{})
	if v, there, e := x.Get(nil); len(v) != 0 || !there || e != api.OK {
		t.Errorf("the empty key: %q, %v, %v", v, there, e)
	}
	if n, _ := x.Len(); n != 1 {
		t.Errorf("Len = %d", n)
	}
	sound(t, x)
}

func TestTooLong(t *testing.T) { // P9.1
	x := empty(t, 2)
	long := func(n int) string { return strings.Repeat("k", n) }
	apply(t, x, put(long(64), long(128)), put("a", "1"), api.Write{Key: []byte("b"), Value: make([]byte, 999), Gone: true})
	pairs := "a=1 " + long(64) + "=" + long(128)
	want(t, x, pairs)
	for how, bad := range map[string]api.Write{
		"a long key":           put(long(65), ""),
		"a long key to be put": put(long(65), long(129)),
		"a long value":         put("c", long(129)),
		"a long key that goes": gone(long(65)),
		"a very long key":      put(long(100000), ""),
	} {
		for _, list := range [][]api.Write{{bad}, {put("a", "2"), gone(long(64)), bad}, {bad, put("a", "2")}} {
			if e := x.Apply(list...); e != api.ErrSize {
				t.Errorf("%s: %v", how, e)
			}
			want(t, x, pairs)
		}
	}
	if v, there, e := x.Get([]byte(long(65))); v != nil || there || e != api.OK {
		t.Errorf("Get of a long key: %v, %v", there, e)
	}
	sound(t, x)
}

func TestScan(t *testing.T) { // P9.1
	x := empty(t, 1)
	var all []string
	for i := range 400 {
		key := string([]byte{byte('a' + i/26), byte('a' + i%26)})
		all = append(all, key+"=")
		apply(t, x, put(key, ""))
	}
	if depth(t, x) < 2 {
		t.Fatalf("all in one node")
	}
	for _, c := range []struct {
		from, to string
		most     int
		list     []string
	}{
		{"", "", 0, all},
		{"", "", -5, all},
		{"", "", math.MinInt, all},
		{"", "", math.MaxInt, all},
		{"", "", 1, all[:1]},
		{"", "", 399, all[:399]},
		{"", "", 400, all},
		{"bc", "", 3, all[28:31]},
		{"bc", "be", 0, all[28:30]},
		{"bc", "be", 1, all[28:29]},
		{"bc", "bea", 0, all[28:31]},
		{"bca", "be", 0, all[29:30]},
		{"", "ab", 0, all[:1]},
		{"", "aa", 0, nil},
		{"bc", "bc", 0, nil},
		{"be", "bc", 0, nil},
		{"zz", "", 0, nil},
		{"zz", "a", 0, nil},
		{strings.Repeat("b", 1000), strings.Repeat("c", 1000), 0, all[28:55]},
	} {
		if got := scanned(t, x, c.from, c.to, c.most); got != strings.Join(c.list, " ") {
			t.Errorf("Scan(%.9q, %.9q, %d) = %q, want %q", c.from, c.to, c.most, got, c.list)
		}
	}
}

func TestNew(t *testing.T) { // P9.1
	d := drive.New(1 << 20)
	p := pool(t, d, 1)
	a, _ := btree.New(p)
	b, e := btree.New(p)
	if e != api.OK || p.Count() != 2 || a.Root() == b.Root() {
		t.Fatalf("two trees: %v, %d pages", e, p.Count())
	}
	for i := range 200 {
		apply(t, a, put(string([]byte{byte(i), 'a'}), "a"))
		apply(t, b, put(string([]byte{byte(i * 3), 'b'}), "b"))
	}
	mine, _ := a.Pages()
	other, _ := b.Pages()
	if all := slices.Sorted(slices.Values(append(mine, other...))); !slices.Equal(all, p.Ids()) {
		t.Errorf("the pages of both are %v, the pool's %v", all, p.Ids())
	}
	if a.Check() != api.OK || b.Check() != api.OK {
		t.Errorf("Check: %v, %v", a.Check(), b.Check())
	}
	if n, _ := a.Len(); n != 200 {
		t.Errorf("Len = %d", n)
	}
	d.Arm(0)
	d.Flush()
	count := p.Count()
	if x, e := btree.New(p); x != nil || e != api.ErrDead || p.Count() != count {
		t.Errorf("New on a dead drive: %v, %d pages of %d", e, p.Count(), count)
	}
}

func TestAt(t *testing.T) { // P9.1, P9.3
	d := drive.New(1 << 20)
	p := pool(t, d, 1)
	x, _ := btree.New(p)
	apply(t, x, put("a", "1"))
	y, e := btree.At(p, x.Root())
	if e != api.OK || y.Root() != x.Root() || y.Pool != p {
		t.Fatalf("At: %v", e)
	}
	want(t, y, "a=1")
	id, _ := p.Alloc()
	for root, bad := range map[int]api.Errno{id: api.ErrForm, -1: api.ErrArg, 77: api.ErrArg, math.MaxInt: api.ErrArg, math.MinInt: api.ErrArg} {
		if x, e := btree.At(p, root); x != nil || e != bad {
			t.Errorf("At(%d): %v, want %v", root, e, bad)
		}
	}
	d.Arm(0)
	d.Flush()
	if x, e := btree.At(p, x.Root()); x != nil || e != api.ErrDead {
		t.Errorf("At on a dead drive: %v", e)
	}
}

func TestManyPages(t *testing.T) { // P9.1: the errors of pages
	p := pool(t, drive.New(1<<24), 4)
	x, _ := btree.New(p)
	for p.Count() < 65536 {
		p.Alloc()
	}
	if y, e := btree.New(p); y != nil || e != api.ErrSize {
		t.Errorf("New without a page left: %v", e)
	}
	for i := range 20 {
		e := x.Apply(put(string(rune('a'+i)), strings.Repeat("v", 100)))
		if e == api.OK && i < 4 {
			continue
		}
		if e != api.ErrSize || i != 4 {
			t.Errorf("the key %d: %v", i, e)
		}
		break
	}
}

// tall is a tree with long keys, so that it has at least three levels.
func tall(t *testing.T, hand int) *btree.Tree {
	t.Helper()
	x := empty(t, hand)
	for i := range 300 {
		apply(t, x, put(tallKey(i), strings.Repeat("v", i%100)))
	}
	if n := depth(t, x); n < 3 {
		t.Fatalf("Depth = %d", n)
	}
	sound(t, x)
	return x
}

func tallKey(i int) string {
	return string([]byte{byte(i * 89 >> 8), byte(i * 89)}) + strings.Repeat("k", 62)
}

func TestEmptied(t *testing.T) { // P9.2
	rising := make([]int, 300)
	for i := range rising {
		rising[i] = i
	}
	falling := slices.Clone(rising)
	slices.Reverse(falling)
	byKey := slices.SortedFunc(slices.Values(rising), func(a, b int) int { return strings.Compare(tallKey(a), tallKey(b)) })
	for how, order := range map[string][]int{"as they came": rising, "backwards": falling, "by their keys": byKey} {
		x := tall(t, 50)
		for left, i := range order {
			apply(t, x, gone(tallKey(i)))
			sound(t, x)
			if n, e := x.Len(); n != 299-left || e != api.OK {
				t.Fatalf("%s: Len = %d, %v", how, n, e)
			}
		}
		if x.Count() != 1 || depth(t, x) != 1 {
			t.Errorf("%s: %d pages, depth %d", how, x.Count(), depth(t, x))
		}
		apply(t, x, put("a", "1"))
		want(t, x, "a=1")
	}
}

func TestThinned(t *testing.T) { // P9.2: pages don't stay for little
	x := tall(t, 3)
	for i := range 300 {
		if i%30 != 0 {
			apply(t, x, gone(tallKey(i)))
		}
	}
	sound(t, x)
	if n, _ := x.Len(); n != 10 || x.Count() > 20 {
		t.Errorf("%d keys in %d pages", n, x.Count())
	}
}

func TestSavedAgain(t *testing.T) { // P9.3
	d := drive.New(1 << 24)
	p := pool(t, d, 2)
	x, _ := btree.New(p)
	for i := range 300 {
		apply(t, x, put(tallKey(i), "1"))
	}
	if e := p.Save([]byte{byte(x.Root())}); e != api.OK {
		t.Fatal(e)
	}
	saved := scanned(t, x, "", "", 0)
	for i := range 300 {
		apply(t, x, gone(tallKey(i)), put(tallKey(i)[1:], "2"))
	}
	d.Crash(1 << 20)
	again, note, e := pages.Open(d, prefix, 3)
	if e != api.OK || len(note) != 1 {
		t.Fatalf("Open: %v", e)
	}
	y, e := btree.At(again, int(note[0]))
	if e != api.OK {
		t.Fatalf("At: %v", e)
	}
	sound(t, y)
	want(t, y, saved)
	apply(t, y, put("z", "3"))
	sound(t, y)
}

// smear writes over bytes and their spare room.
func smear(b []byte) {
	for i := range b[:cap(b)] {
		b[:cap(b)][i] = '!'
	}
}

func TestMemory(t *testing.T) { // P9.5
	x := empty(t, 100)
	roomy := func(text string) []byte { return append(make([]byte, 0, len(text)+4), text...) }
	writes := make([]api.Write, 0, 9)
	for _, key := range []string{"a", "b", "c"} {
		writes = append(writes, api.Write{Key: roomy(key), Value: roomy(key + "1")})
	}
	apply(t, x, writes...)
	for i, w := range writes {
		key := string(rune('a' + i))
		if string(w.Key) != key || string(w.Value) != key+"1" || !bytes.Equal(w.Key[1:5], make([]byte, 4)) || !bytes.Equal(w.Value[2:6], make([]byte, 4)) {
			t.Errorf("Apply changed what it was handed: %q, %q", w.Key, w.Value)
		}
		smear(w.Key)
		smear(w.Value)
	}
	if spare := writes[:9][3:]; slices.ContainsFunc(spare, func(w api.Write) bool { return w.Key != nil }) {
		t.Errorf("Apply changed spare room")
	}
	want(t, x, "a=a1 b=b1 c=c1")

	pairs, _ := x.Scan(nil, nil, 0)
	v, _, _ := x.Get([]byte("b"))
	smear(pairs[0].Key)
	smear(pairs[0].Value)
	smear(pairs[1].Key)
	if told(pairs[1:]) != "!=b1 c=c1" || string(v) != "b1" {
		t.Errorf("answers share memory: %q, %q", told(pairs), v)
	}
	smear(v)
	list, _ := x.Pages()
	list[0] = 99
	want(t, x, "a=a1 b=b1 c=c1")
	sound(t, x)

	from, to := roomy("a"), roomy("c")
	x.Scan(from, to, 0)
	x.Get(from)
	if string(from[:5]) != "a\x00\x00\x00\x00" || string(to[:5]) != "c\x00\x00\x00\x00" {
		t.Errorf("a look changed what it was handed")
	}
}

// page lays a node into a new page.
func page(t *testing.T, p *pages.Pool, n leaf.Node) int {
	t.Helper()
	id, e := p.Alloc()
	if e != api.OK {
		t.Fatal(e)
	}
	lay(t, p, id, n)
	return id
}

func lay(t *testing.T, p *pages.Pool, id int, n leaf.Node) {
	t.Helper()
	b, e := leaf.Encode(n)
	if e != api.OK {
		t.Fatalf("Encode: %v", e)
	}
	if e := p.Put(id, b); e != api.OK {
		t.Fatal(e)
	}
}
