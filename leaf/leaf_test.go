package leaf_test

import (
	"bytes"
	"math"
	"math/rand"
	"reflect"
	"slices"
	"strings"
	"testing"

	"groyne/api"
	"groyne/leaf"
)

// lists are texts as lists of bytes, parted by blanks; a - is none.
func lists(text string) [][]byte {
	var out [][]byte
	for _, word := range strings.Fields(text) {
		out = append(out, []byte(strings.Trim(word, "-")))
	}
	return out
}

func leafOf(keys, values string) leaf.Node {
	return leaf.Node{Leaf: true, Keys: lists(keys), Values: lists(values)}
}

func fork(keys string, kids ...int) leaf.Node {
	return leaf.Node{Keys: lists(keys), Kids: kids}
}

// told is a node as text: nil lists and empty ones are the same.
func told(n leaf.Node) string {
	var out []string
	for _, list := range [][][]byte{n.Keys, n.Values} {
		out = append(out, string(bytes.Join(list, []byte(","))))
	}
	kids := ""
	for _, kid := range n.Kids {
		kids += string(rune('A' + kid%26))
	}
	kind := "fork"
	if n.Leaf {
		kind = "leaf"
	}
	return kind + " " + strings.Join(append(out, kids), " ")
}

func same(a, b leaf.Node) bool {
	return a.Leaf == b.Leaf && slices.EqualFunc(a.Keys, b.Keys, bytes.Equal) && slices.EqualFunc(a.Values, b.Values, bytes.Equal) && slices.Equal(a.Kids, b.Kids)
}

func want(t *testing.T, what string, got, want leaf.Node) {
	t.Helper()
	if !same(got, want) {
		t.Errorf("%s = %s, want %s", what, told(got), told(want))
	}
}

func TestCheck(t *testing.T) { // P8.1
	long := func(n int) [][]byte { return [][]byte{make([]byte, n)} }
	for _, c := range []struct {
		how  string
		n    leaf.Node
		want api.Errno
	}{
		{"a leaf without keys", leaf.Node{Leaf: true}, api.OK},
		{"a leaf", leafOf("a b", "1 2"), api.OK},
		{"the empty key", leafOf("- a", "1 -"), api.OK},
		{"fork", fork("a b", 0, 7, 65535), api.OK},
		{"fork with one kid", fork("", 0), api.OK},
		{"the longest key and value", leaf.Node{Leaf: true, Keys: long(64), Values: long(128)}, api.OK},
		{"a long key", leaf.Node{Leaf: true, Keys: long(65), Values: long(1)}, api.ErrSize},
		{"a long value", leaf.Node{Leaf: true, Keys: long(1), Values: long(129)}, api.ErrSize},
		{"fork's long key", leaf.Node{Keys: long(65), Kids: []int{1, 2}}, api.ErrSize},
		{"fork's long value", leaf.Node{Keys: long(1), Values: long(129), Kids: []int{1, 2}}, api.ErrSize},
		{"a long key that is all wrong", leaf.Node{Keys: append(lists("c b"), long(65)...), Kids: []int{-1}}, api.ErrSize},
		{"a long value behind wrong keys", leaf.Node{Leaf: true, Keys: lists("c b"), Values: long(129), Kids: []int{-1}}, api.ErrSize},
		{"the zero node", leaf.Node{}, api.ErrForm},
		{"falling keys", leafOf("b a", "1 2"), api.ErrForm},
		{"keys alike", leafOf("a a", "1 2"), api.ErrForm},
		{"the last keys alike", leafOf("a b b", "1 2 3"), api.ErrForm},
		{"a longer one ahead", leafOf("ab a", "1 2"), api.ErrForm},
		{"too few values", leafOf("a b", "1"), api.ErrForm},
		{"too many values", leafOf("a", "1 2"), api.ErrForm},
		{"a leaf with a kid", leaf.Node{Leaf: true, Kids: []int{1}}, api.ErrForm},
		{"fork's falling keys", fork("b a", 1, 2, 3), api.ErrForm},
		{"too few kids", fork("a b", 1, 2), api.ErrForm},
		{"too many kids", fork("a b", 1, 2, 3, 4), api.ErrForm},
		{"fork with a value", leaf.Node{Keys: lists("a"), Values: lists("1"), Kids: []int{1, 2}}, api.ErrForm},
		{"a kid below 0", fork("a", 1, -1), api.ErrForm},
		{"a kid too great", fork("a", 65536, 1), api.ErrForm},
		{"a kid far too great", fork("a", 1, math.MaxInt), api.ErrForm},
	} {
		if got := leaf.Check(c.n); got != c.want {
			t.Errorf("%s: %v, want %v", c.how, got, c.want)
		}
		if b, e := leaf.Encode(c.n); e != c.want || (e != api.OK) != (b == nil) {
			t.Errorf("%s: Encode: %v, want %v", c.how, e, c.want)
		}
	}
}

func TestSize(t *testing.T) { // P8.1
	for _, c := range []struct {
		n    leaf.Node
		want int
	}{
		{leaf.Node{Leaf: true}, 3},
		{leaf.Node{}, 3},
		{leafOf("a", "12"), 3 + 2 + 4},
		{leafOf("a bcd -", "12 - 3"), 3 + 2 + 4 + 1 + 4 + 2 + 3},
		{fork("", 5), 5},
		{fork("a bcd", 5, 6, 7), 3 + 2 + 4 + 6},
		{fork("a bcd"), 3 + 2 + 4},
		{leaf.Node{Leaf: true, Keys: lists("a"), Kids: []int{1, 2}}, 5},
		{leaf.Node{Values: lists("a"), Kids: []int{1, 2}}, 7},
	} {
		if got := leaf.Size(c.n); got != c.want {
			t.Errorf("Size(%s) = %d, want %d", told(c.n), got, c.want)
		}
	}
}

// padded is a page that begins with these bytes.
func padded(b ...byte) []byte { return append(b, make([]byte, api.PageSize-len(b))...) }

func TestPages(t *testing.T) { // P8.1
	for _, c := range []struct {
		n    leaf.Node
		page []byte
	}{
		{leaf.Node{Leaf: true}, padded(1)},
		{leafOf("a", "\x01\x02"), padded(1, 0, 1, 1, 97, 0, 2, 1, 2)},
		{leafOf("- b bc", "- xy -"), padded(1, 0, 3, 0, 0, 0, 1, 'b', 0, 2, 'x', 'y', 2, 'b', 'c', 0, 0)},
		{fork("", 258), padded(2, 0, 0, 1, 2)},
		{fork("a bc", 1, 256, 65535), padded(2, 0, 2, 0, 1, 1, 'a', 1, 0, 2, 'b', 'c', 255, 255)},
	} {
		page, e := leaf.Encode(c.n)
		if e != api.OK || !bytes.Equal(page, c.page) {
			t.Errorf("Encode(%s) = %v, %v", told(c.n), page, e)
		}
		n, e := leaf.Decode(c.page)
		if e != api.OK {
			t.Errorf("Decode of %s: %v", told(c.n), e)
		}
		want(t, "Decode", n, c.n)
	}
}

// filled is a leaf whose page needs just this many bytes, 5 at least.
func filled(size int) leaf.Node {
	n := leaf.Node{Leaf: true}
	for left := size - 3; left > 0; {
		here := min(left, 68)
		if left-here > 0 && left-here < 4 {
			here -= 4
		}
		left -= here
		n.Keys = append(n.Keys, []byte{byte(len(n.Keys))})
		n.Values = append(n.Values, make([]byte, here-4))
	}
	return n
}

func TestFull(t *testing.T) { // P8.1
	for size := 40; size < 600; size++ {
		n := filled(size)
		if leaf.Size(n) != size {
			t.Fatalf("Size = %d, want %d", leaf.Size(n), size)
		}
		page, e := leaf.Encode(n)
		if size > 512 {
			if e != api.ErrFull || page != nil {
				t.Errorf("Encode of %d bytes: %v", size, e)
			}
			continue
		}
		back, bad := leaf.Decode(page)
		if e != api.OK || bad != api.OK {
			t.Fatalf("%d bytes: %v, %v", size, e, bad)
		}
		want(t, "Decode", back, n)
	}
	wrong := filled(600)
	wrong.Keys[0], wrong.Keys[1] = wrong.Keys[1], wrong.Keys[0]
	if _, e := leaf.Encode(wrong); e != api.ErrForm {
		t.Errorf("the least error: %v", e)
	}
	many := leaf.Node{Leaf: true, Keys: make([][]byte, 70000), Values: make([][]byte, 70000)}
	for i := range many.Keys {
		many.Keys[i] = []byte{byte(i >> 16), byte(i >> 8), byte(i)}
	}
	if _, e := leaf.Encode(many); e != api.ErrFull {
		t.Errorf("70000 keys: %v", e)
	}
}

func TestNotAPage(t *testing.T) { // P8.1
	for _, size := range []int{0, 1, 511, 513, 1024} {
		if n, e := leaf.Decode(make([]byte, size)); e != api.ErrSize || !reflect.DeepEqual(n, leaf.Node{}) {
			t.Errorf("a page of %d bytes: %v", size, e)
		}
	}
	longKey := padded(append([]byte{1, 0, 1, 65}, make([]byte, 67)...)...)
	longValue := padded(append([]byte{1, 0, 1, 0, 0, 129}, bytes.Repeat([]byte{1}, 129)...)...)
	behind := padded(1)
	behind[511] = 9
	over := padded(1, 0, 1, 0, 2, 0) // a value of 512 bytes
	cut := bytes.Repeat([]byte{255}, 512)
	copy(cut, []byte{2, 255, 255})
	for how, page := range map[string][]byte{
		"noughts":            padded(),
		"no kind":            padded(3),
		"a long key":         longKey,
		"a long value":       longValue,
		"bytes behind":       behind,
		"bytes right behind": padded(1, 0, 1, 1, 97, 0, 0, 1),
		"beyond the end":     over,
		"far too many keys":  padded(1, 255, 255),
		"all ones":           cut,
		"keys alike":         padded(1, 0, 2, 1, 'a', 0, 0, 1, 'a', 0, 0),
		"falling keys":       padded(2, 0, 2, 0, 1, 1, 'b', 0, 2, 1, 'a', 0, 3),
	} {
		if n, e := leaf.Decode(page); e != api.ErrForm || !reflect.DeepEqual(n, leaf.Node{}) {
			t.Errorf("%s: %v", how, e)
		}
	}
	if n, e := leaf.Decode(padded(2)); e != api.OK || !same(n, fork("", 0)) {
		t.Errorf("a fork with the kid 0 alone: %v, %v", n, e)
	}
}

// random is a node in form, bigger than a page by one entry at most.
func random(rnd *rand.Rand, isLeaf bool) leaf.Node {
	n := leaf.Node{Leaf: isLeaf}
	if !isLeaf {
		n.Kids = []int{rnd.Intn(65536)}
	}
	keys := map[string]int{}
	longest, most := 1+rnd.Intn(64), rnd.Intn(128)
	for size := leaf.Size(n); size <= api.PageSize && rnd.Intn(60) > 0; {
		key := make([]byte, rnd.Intn(longest+1))
		rnd.Read(key)
		if _, there := keys[string(key)]; there {
			continue
		}
		keys[string(key)] = 1
		n.Keys = append(n.Keys, key)
		if isLeaf {
			value := make([]byte, rnd.Intn(most+1))
			rnd.Read(value)
			n.Values = append(n.Values, value)
		} else {
			n.Kids = append(n.Kids, rnd.Intn(65536))
		}
		size = leaf.Size(n)
	}
	slices.SortFunc(n.Keys, bytes.Compare)
	return n
}

func TestThereAndBack(t *testing.T) { // P8.1
	rnd := rand.New(rand.NewSource(1))
	for i := range 3000 {
		n := random(rnd, i%2 == 0)
		if e := leaf.Check(n); e != api.OK {
			t.Fatalf("Check: %v", e)
		}
		page, e := leaf.Encode(n)
		if leaf.Size(n) > api.PageSize {
			if e != api.ErrFull {
				t.Errorf("Encode of %d bytes: %v", leaf.Size(n), e)
			}
			continue
		}
		back, bad := leaf.Decode(page)
		if e != api.OK || bad != api.OK || !same(back, n) {
			t.Fatalf("there and back: %v, %v", e, bad)
		}
		if len(bytes.TrimRight(page, "\x00")) > leaf.Size(n) {
			t.Errorf("more bytes than Size says")
		}
		for range 20 {
			spoilt := bytes.Clone(page)
			spoilt[rnd.Intn(leaf.Size(n))] ^= byte(1 + rnd.Intn(255))
			other, e := leaf.Decode(spoilt)
			if e != api.OK && e != api.ErrForm {
				t.Fatalf("a spoilt page: %v", e)
			}
			if e == api.OK {
				again, e := leaf.Encode(other)
				if e != api.OK || !bytes.Equal(again, spoilt) {
					t.Fatalf("a page of a node that has another page")
				}
			}
		}
	}
}

func TestFind(t *testing.T) { // P8.2
	for _, c := range []struct {
		keys, key string
		at        int
		found     bool
	}{
		{"", "a", 0, false},
		{"a c", "b", 1, false},
		{"a c", "c", 1, true},
		{"a c", "a", 0, true},
		{"a c", "", 0, false},
		{"- c", "", 0, true},
		{"a c", "d", 2, false},
		{"a c", "cc", 2, false},
		{"a cc", "c", 1, false},
		{"c a", "b", 0, false}, // not in form: the first one that isn't below, wherever it stands
		{"a z b", "b", 1, false},
		{"a a", "a", 0, true},
	} {
		for _, n := range []leaf.Node{leafOf(c.keys, ""), fork(c.keys)} {
			if at, found := leaf.Find(n, []byte(c.key)); at != c.at || found != c.found {
				t.Errorf("Find(%q; %q) = %d, %v", c.keys, c.key, at, found)
			}
		}
	}
}

func TestWithAndWithout(t *testing.T) { // P8.2
	n := leafOf("b d", "1 2")
	with := func(n leaf.Node, i int) leaf.Node { return leaf.With(n, i, []byte("k"), []byte("v")) }
	want(t, "With at 0", with(n, 0), leafOf("k b d", "v 1 2"))
	want(t, "With at 1", with(n, 1), leafOf("b k d", "1 v 2"))
	want(t, "With at the end", with(n, 2), leafOf("b d k", "1 2 v"))
	want(t, "With in an empty one", with(leafOf("", ""), 0), leafOf("k", "v"))
	want(t, "With nothing", leaf.With(n, 0, nil, nil), leafOf("- b d", "- 1 2"))
	want(t, "Without the first", leaf.Without(n, 0), leafOf("d", "2"))
	want(t, "Without the last", leaf.Without(n, 1), leafOf("b", "1"))
	want(t, "Without the only one", leaf.Without(leafOf("a", "1"), 0), leafOf("", ""))
	for _, i := range []int{-1, 3, math.MaxInt, math.MinInt} {
		want(t, "With at no place", with(n, i), n)
		want(t, "Without no place", leaf.Without(n, i), n)
	}
	want(t, "Without behind the last", leaf.Without(n, 2), n)
	for _, other := range []leaf.Node{fork("a b", 1, 2, 3), {}, {Keys: lists("a"), Values: lists("1")}} {
		for i := range 4 {
			want(t, "With of a fork", with(other, i), other)
			want(t, "Without of a fork", leaf.Without(other, i), other)
		}
	}
	// Leaves whose lists don't fit together are taken, too.
	want(t, "With of few values", with(leafOf("a b c", ""), 2), leafOf("a b k c", "v"))
	want(t, "Without of few values", leaf.Without(leafOf("a b c", "1"), 2), leafOf("a b", "1"))
}

func TestJoin(t *testing.T) { // P8.2
	want(t, "Join of none", leaf.Join(), leaf.Node{Leaf: true})
	want(t, "Join of forks", leaf.Join(fork("a", 1, 2), leaf.Node{}), leaf.Node{Leaf: true})
	want(t, "Join of one", leaf.Join(leafOf("a b", "1 2")), leafOf("a b", "1 2"))
	want(t, "Join", leaf.Join(leafOf("c", "3"), leafOf("", ""), fork("x", 1, 2), leafOf("a b", "1 2")), leafOf("c a b", "3 1 2"))
}
