package btree_test

import (
	"math/rand"
	"slices"
	"strings"
	"testing"

	"groyne/api"
	"groyne/btree"
	"groyne/drive"
	"groyne/leaf"
	"groyne/pages"
)

// leafOf is a leaf with these keys, parted by blanks.
func leafOf(keys string) leaf.Node {
	n := leaf.Node{Leaf: true}
	for _, key := range strings.Fields(keys) {
		n.Keys = append(n.Keys, []byte(key))
		n.Values = append(n.Values, []byte("v"))
	}
	return n
}

// fork has these keys, parted by blanks (a - is the empty one), and these kids.
func fork(keys string, kids ...int) leaf.Node {
	n := leaf.Node{Kids: kids}
	for _, key := range strings.Fields(keys) {
		n.Keys = append(n.Keys, []byte(strings.Trim(key, "-")))
	}
	return n
}

// made is a tree of these nodes, which are the pages from 0 on; the first one is the root.
func made(t *testing.T, nodes ...leaf.Node) *btree.Tree {
	t.Helper()
	p := pool(t, drive.New(1<<20), 2)
	for _, n := range nodes {
		page(t, p, n)
	}
	x, e := btree.At(p, 0)
	if e != api.OK {
		t.Fatalf("At: %v", e)
	}
	return x
}

func TestCheck(t *testing.T) { // P9.2
	for _, c := range []struct {
		how   string
		bad   bool
		nodes []leaf.Node
	}{
		{"an empty root", false, []leaf.Node{leafOf("")}},
		{"two leaves", false, []leaf.Node{fork("c", 1, 2), leafOf("a b"), leafOf("c d")}},
		{"a fork with one kid", false, []leaf.Node{fork("", 1), leafOf("a b")}},
		{"three levels", false, []leaf.Node{fork("e", 1, 2), fork("c", 3, 4), fork("g", 5, 6), leafOf("a"), leafOf("c"), leafOf("f"), leafOf("g h")}},
		{"a key at the end", true, []leaf.Node{fork("c", 1, 2), leafOf("a c"), leafOf("d")}},
		{"a key above", true, []leaf.Node{fork("c", 1, 2), leafOf("a d"), leafOf("d")}},
		{"a key below", true, []leaf.Node{fork("c", 1, 2), leafOf("a"), leafOf("b d")}},
		{"a key above that of the root", true, []leaf.Node{fork("e", 1, 2), fork("c", 3, 4), fork("g", 5, 6), leafOf("a"), leafOf("c e"), leafOf("f"), leafOf("g")}},
		{"a key below that of the root", true, []leaf.Node{fork("e", 1, 2), fork("c", 3, 4), fork("g", 5, 6), leafOf("a"), leafOf("c"), leafOf("d"), leafOf("g")}},
		{"a fork's key above", true, []leaf.Node{fork("e", 1, 2), fork("f", 3, 4), fork("g", 5, 6), leafOf("a"), leafOf("f"), leafOf("f"), leafOf("g")}},
		{"a fork's key below", true, []leaf.Node{fork("e", 1, 2), fork("c", 3, 4), fork("d", 5, 6), leafOf("a"), leafOf("c"), leafOf("e"), leafOf("e")}},
		{"nothing is below the empty key", true, []leaf.Node{fork("-", 1, 2), leafOf("a"), leafOf("c")}},
		{"unlike depths", true, []leaf.Node{fork("c", 1, 2), leafOf("a"), fork("", 3), leafOf("c")}},
		{"unlike depths, the deeper one ahead", true, []leaf.Node{fork("c", 1, 2), fork("", 3), leafOf("c"), leafOf("a")}},
		{"an empty leaf", true, []leaf.Node{fork("c", 1, 2), leafOf("a"), leafOf("")}},
		{"an empty leaf, the first one", true, []leaf.Node{fork("c", 1, 2), leafOf(""), leafOf("c")}},
		{"an empty leaf alone", true, []leaf.Node{fork("", 1), leafOf("")}},
		{"no such page", true, []leaf.Node{fork("c", 1, 77), leafOf("a")}},
		{"itself", true, []leaf.Node{fork("", 0)}},
		{"itself behind another one", true, []leaf.Node{fork("c", 1, 0), leafOf("a")}},
		{"one page twice in a node", true, []leaf.Node{fork("c", 1, 1), leafOf("a")}},
		{"one fork twice", true, []leaf.Node{fork("c", 1, 1), fork("", 2), leafOf("a")}},
		{"one page below two nodes", true, []leaf.Node{fork("e", 1, 2), fork("c", 3, 4), fork("", 4), leafOf("a"), leafOf("c")}},
	} {
		want := api.OK
		if c.bad {
			want = api.ErrForm
		}
		if got := made(t, c.nodes...).Check(); got != want {
			t.Errorf("%s: Check = %v, want %v", c.how, got, want)
		}
	}
}

// hurt spoils one page of a tree in several ways, and shows the tree then.
func hurt(t *testing.T, show func(x *btree.Tree, id int, key string)) {
	list, _ := tall(t, 1000).Pages()
	for _, id := range list {
		for _, how := range []func(p *pages.Pool){
			func(p *pages.Pool) { p.Put(id, make([]byte, api.PageSize)) },
			func(p *pages.Pool) { p.Put(id, slices.Repeat([]byte{255}, api.PageSize)) },
			func(p *pages.Pool) { p.Free(id) },
		} {
			x := tall(t, 1000)
			b, _ := x.Pool.Get(id)
			n, _ := leaf.Decode(b)
			how(x.Pool)
			show(x, id, string(n.Keys[0]))
		}
	}
}

func TestSpoiltPageIsTold(t *testing.T) { // P9.4
	hurt(t, func(x *btree.Tree, id int, key string) {
		pairs, scan := x.Scan(nil, nil, 0)
		length, many := x.Len()
		list, all := x.Pages()
		if scan != api.ErrForm || many != api.ErrForm || all != api.ErrForm || x.Check() != api.ErrForm {
			t.Errorf("page %d: Scan %v, Len %v, Pages %v, Check %v", id, scan, many, all, x.Check())
		}
		if pairs != nil || length != 0 || list != nil {
			t.Errorf("page %d: something beside an error", id)
		}
		if v, there, e := x.Get([]byte(key)); v != nil || there || e != api.ErrForm {
			t.Errorf("page %d: Get of its key: %v, %v", id, there, e)
		}
		if pairs, e := x.Scan([]byte(key), nil, 1); pairs != nil || e != api.ErrForm {
			t.Errorf("page %d: Scan from its key on: %v", id, e)
		}
		n, e := x.Depth()
		if e != api.OK && e != api.ErrForm || id == x.Root() && e != api.ErrForm || e != api.OK && n != 0 {
			t.Errorf("page %d: Depth: %d, %v", id, n, e)
		}
		if e := x.Apply(put(key, "new")); e != api.ErrForm {
			t.Errorf("page %d: Apply to its key: %v", id, e)
		}
	})
}

func TestOtherPagesGoOn(t *testing.T) { // P9.4
	x := tall(t, 4)
	pairs, _ := x.Scan(nil, nil, 0)
	last := pairs[len(pairs)-1].Key
	for _, id := range x.Ids() {
		b, _ := x.Pool.Get(id)
		if n, _ := leaf.Decode(b); n.Leaf && slices.ContainsFunc(n.Keys, func(key []byte) bool { return string(key) == string(last) }) {
			x.Put(id, make([]byte, api.PageSize))
		}
	}
	if _, there, e := x.Get(pairs[0].Key); !there || e != api.OK {
		t.Errorf("Get: %v", e)
	}
	if got, e := x.Scan(nil, nil, 100); len(got) != 100 || e != api.OK {
		t.Errorf("Scan: %d, %v", len(got), e)
	}
	if _, _, e := x.Get(last); e != api.ErrForm {
		t.Errorf("Get of what was spoilt: %v", e)
	}
}

func TestEndless(t *testing.T) { // P9.4
	for how, nodes := range map[string][]leaf.Node{
		"itself":             {fork("", 0)},
		"one behind another": {fork("", 1), fork("", 0)},
		"three":              {fork("c", 1, 1), fork("d", 2, 2), fork("e", 0, 0)},
	} {
		x := made(t, nodes...)
		_, _, get := x.Get([]byte("a"))
		_, scan := x.Scan(nil, nil, 0)
		_, length := x.Len()
		_, deep := x.Depth()
		_, list := x.Pages()
		for i, e := range []api.Errno{get, scan, length, deep, list, x.Check(), x.Apply(put("a", "1")), x.Apply(gone("a"))} {
			if e != api.ErrForm {
				t.Errorf("%s: the call %d: %v", how, i, e)
			}
		}
	}
	// Each fork has the next one many times: there are far more ways than can be gone.
	var nodes []leaf.Node
	for i := range 60 {
		nodes = append(nodes, fork("a b c d e f", slices.Repeat([]int{i + 1}, 7)...))
	}
	x := made(t, append(nodes, leafOf("a"))...)
	if n, e := x.Len(); n != 0 || e != api.ErrForm {
		t.Errorf("Len = %d, %v", n, e)
	}
	if n := depth(t, x); n != 61 {
		t.Errorf("Depth = %d", n)
	}
}

func TestOneKid(t *testing.T) { // P9.2: forks in form that no write of a tree leaves
	for how, c := range map[string]struct {
		nodes []leaf.Node
		goes  string
		want  string
		pages int
	}{
		"a chain":                 {[]leaf.Node{fork("", 1), fork("", 2), fork("", 3), leafOf("a")}, "a", "", 1},
		"a chain that keeps one":  {[]leaf.Node{fork("", 1), fork("", 2), leafOf("a b")}, "a", "b=v", 1},
		"beside another one":      {[]leaf.Node{fork("c", 1, 2), fork("", 3), fork("", 4), leafOf("a"), leafOf("c d")}, "a", "c=v d=v", 1},
		"behind another one":      {[]leaf.Node{fork("c", 1, 2), fork("", 3), fork("", 4), leafOf("a b"), leafOf("c")}, "c", "a=v b=v", 1},
		"the middle of three":     {[]leaf.Node{fork("c e", 1, 2, 3), leafOf("a b"), leafOf("c"), leafOf("e")}, "c", "a=v b=v e=v", 3},
		"the first of three":      {[]leaf.Node{fork("c e", 1, 2, 3), leafOf("a"), leafOf("c d"), leafOf("e")}, "a", "c=v d=v e=v", 3},
		"the last of three":       {[]leaf.Node{fork("c e", 1, 2, 3), leafOf("a"), leafOf("c d"), leafOf("e")}, "e", "a=v c=v d=v", 3},
		"two that become one":     {[]leaf.Node{fork("c", 1, 2), leafOf("a b"), leafOf("c d")}, "d", "a=v b=v c=v", 1},
		"two that become one too": {[]leaf.Node{fork("c", 1, 2), leafOf("a b"), leafOf("c d")}, "a", "b=v c=v d=v", 1},
	} {
		x := made(t, c.nodes...)
		apply(t, x, gone(c.goes))
		sound(t, x)
		want(t, x, c.want)
		if x.Count() != c.pages {
			t.Errorf("%s: %d pages", how, x.Count())
		}
		apply(t, x, put("b", "v"), put("x", "v"))
		sound(t, x)
	}
}

func TestWrongNeighbours(t *testing.T) { // P9.4
	x := made(t, fork("c", 1, 2), leafOf("a b"), fork("", 3), leafOf("c"))
	if e := x.Apply(gone("a")); e != api.ErrForm {
		t.Errorf("a leaf beside a fork: %v", e)
	}
	x = made(t, fork("c", 1, 1), leafOf("a b"))
	if e := x.Apply(gone("a")); e != api.ErrForm {
		t.Errorf("a leaf beside itself: %v", e)
	}
	x = made(t, fork("c", 1, 77), leafOf("a"))
	if e := x.Apply(gone("a")); e != api.ErrForm {
		t.Errorf("a root whose only kid left is no page: %v", e)
	}
	x = made(t, fork("c", 1, 0), leafOf("a"))
	if e := x.Apply(gone("a")); e != api.ErrForm {
		t.Errorf("a root whose only kid left is the root: %v", e)
	}
}

// anyNode is a node in form with kids among the first pages, and often wrong in a tree.
func anyNode(rnd *rand.Rand) leaf.Node {
	n := leaf.Node{Leaf: rnd.Intn(2) == 0}
	for c := rnd.Intn(6); c < 26; c += 1 + rnd.Intn(8) {
		n.Keys = append(n.Keys, slices.Repeat([]byte{byte('a' + c)}, 1+rnd.Intn(50)))
	}
	if rnd.Intn(5) == 0 {
		n.Keys = nil
	}
	for range n.Keys {
		if n.Leaf {
			n.Values = append(n.Values, make([]byte, rnd.Intn(20)))
		} else {
			n.Kids = append(n.Kids, rnd.Intn(12))
		}
	}
	if !n.Leaf {
		n.Kids = append(n.Kids, rnd.Intn(12))
	}
	return n
}

// every makes each call of a tree, all of which must end.
func every(t *testing.T, rnd *rand.Rand, x *btree.Tree) {
	text := func() string { return strings.Repeat(string(rune('a'+rnd.Intn(26))), rnd.Intn(60)) }
	for range 30 {
		_, _, get := x.Get([]byte(text()))
		_, scan := x.Scan([]byte(text()), []byte(text()), rnd.Intn(9))
		_, length := x.Len()
		_, deep := x.Depth()
		_, list := x.Pages()
		w := put(text(), text())
		w.Gone = rnd.Intn(2) == 0
		for i, e := range []api.Errno{get, scan, length, deep, list, x.Check(), x.Apply(w)} {
			if e != api.OK && e != api.ErrForm {
				t.Fatalf("the call %d: %v", i, e)
			}
		}
	}
}

func TestWhateverPages(t *testing.T) { // P9.4
	for seed := range int64(800) {
		rnd := rand.New(rand.NewSource(seed))
		p := pool(t, drive.New(1<<20), 1+int(seed)%9)
		for range 10 {
			n := anyNode(rnd)
			if leaf.Size(n) > api.PageSize {
				n = leafOf("a")
			}
			page(t, p, n)
		}
		x, e := btree.At(p, 0)
		if e != api.OK {
			t.Fatalf("At: %v", e)
		}
		every(t, rnd, x)
	}
}

func TestSpoiltBytes(t *testing.T) { // P9.4
	for seed := range int64(150) {
		rnd := rand.New(rand.NewSource(seed))
		x := empty(t, 50)
		for i := range 60 {
			apply(t, x, put(tallKey(i), strings.Repeat("v", i)))
		}
		ids := x.Ids()
		for range 1 + rnd.Intn(3) {
			id := ids[rnd.Intn(len(ids))]
			b, _ := x.Pool.Get(id)
			b[rnd.Intn(1+rnd.Intn(len(b)))] ^= byte(1 + rnd.Intn(255))
			x.Put(id, b)
		}
		every(t, rnd, x)
	}
}
