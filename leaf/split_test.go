package leaf_test

import (
	"bytes"
	"math/rand"
	"reflect"
	"slices"
	"testing"

	"groyne/api"
	"groyne/leaf"
)

// together is what two halves and the key between them were.
func together(a leaf.Node, key []byte, b leaf.Node) leaf.Node {
	n := leaf.Node{Leaf: a.Leaf, Values: append(a.Values, b.Values...), Kids: append(a.Kids, b.Kids...)}
	n.Keys = slices.Clone(a.Keys)
	if !a.Leaf {
		n.Keys = append(n.Keys, key)
	}
	n.Keys = append(n.Keys, b.Keys...)
	return n
}

// greater is the greater size of the two nodes, if the first one has i keys.
func greater(n leaf.Node, i int) int {
	a, b := leaf.Node{Leaf: n.Leaf, Keys: n.Keys[:i]}, leaf.Node{Leaf: n.Leaf}
	if n.Leaf {
		a.Values, b.Keys, b.Values = n.Values[:i], n.Keys[i:], n.Values[i:]
	} else {
		a.Kids, b.Keys, b.Kids = n.Kids[:i+1], n.Keys[i+1:], n.Kids[i+1:]
	}
	return max(leaf.Size(a), leaf.Size(b))
}

func TestSplit(t *testing.T) { // P8.3
	for _, c := range []struct {
		n, a leaf.Node
		key  string
		b    leaf.Node
	}{
		{leafOf("a b", "1 2"), leafOf("a", "1"), "b", leafOf("b", "2")},
		{leafOf("a b c", "1 2 3"), leafOf("a", "1"), "b", leafOf("b c", "2 3")}, // of several as few
		{leafOf("a b c", "1 2 333"), leafOf("a b", "1 2"), "c", leafOf("c", "333")},
		{leafOf("a b c", "111 2 3"), leafOf("a", "111"), "b", leafOf("b c", "2 3")},
		{leafOf("a b c d", "1 2 3 4444444444"), leafOf("a b c", "1 2 3"), "d", leafOf("d", "4444444444")},
		{fork("a b c", 1, 2, 3, 4), fork("a", 1, 2), "b", fork("c", 3, 4)},
		{fork("a b c d", 1, 2, 3, 4, 5), fork("a", 1, 2), "b", fork("c d", 3, 4, 5)},
		{fork("a b c dddddd", 1, 2, 3, 4, 5), fork("a b", 1, 2, 3), "c", fork("dddddd", 4, 5)},
		{fork("a bbbbbbbbb c d", 1, 2, 3, 4, 5), fork("a", 1, 2), "bbbbbbbbb", fork("c d", 3, 4, 5)},
	} {
		a, key, b := leaf.Split(c.n)
		if !same(a, c.a) || string(key) != c.key || !same(b, c.b) {
			t.Errorf("Split(%s) = %s, %q, %s", told(c.n), told(a), key, told(b))
		}
	}
}

func TestTooFewToSplit(t *testing.T) { // P8.3
	for _, n := range []leaf.Node{
		{}, {Leaf: true}, leafOf("a", "1"), fork("", 1), fork("a", 1, 2), fork("a b", 1, 2, 3),
		{Leaf: true, Values: lists("1 2 3"), Kids: []int{1}}, {Keys: lists("a b"), Values: lists("1 2 3")},
	} {
		a, key, b := leaf.Split(n)
		if !same(a, n) || len(key) != 0 || !reflect.DeepEqual(b, leaf.Node{}) {
			t.Errorf("Split(%s) = %s, %q, %s", told(n), told(a), key, told(b))
		}
	}
}

func TestSplitRandom(t *testing.T) { // P8.3
	rnd := rand.New(rand.NewSource(2))
	for i := range 2000 {
		n := random(rnd, i%2 == 0)
		last := len(n.Keys) - 1
		if !n.Leaf {
			last--
		}
		if last < 1 {
			continue
		}
		a, key, b := leaf.Split(n)
		if len(a.Keys) < 1 || len(b.Keys) < 1 || !same(together(a, key, b), n) {
			t.Fatalf("the halves aren't the whole")
		}
		best := 1
		for k := 2; k <= last; k++ {
			if greater(n, k) < greater(n, best) {
				best = k
			}
		}
		if len(a.Keys) != best {
			t.Fatalf("%d keys in the first one, want %d of %d", len(a.Keys), best, len(n.Keys))
		}
		if n.Leaf && (!bytes.Equal(key, b.Keys[0]) || !same(leaf.Join(a, b), n)) {
			t.Fatalf("a leaf's halves")
		}
		for _, half := range []leaf.Node{a, b} {
			if _, e := leaf.Encode(half); e != api.OK {
				t.Fatalf("a half doesn't fit: %v, %d of %d bytes", e, leaf.Size(half), leaf.Size(n))
			}
		}
	}
}

func TestSplitOutOfForm(t *testing.T) { // P8.3: nothing panics, nothing is lost
	rnd := rand.New(rand.NewSource(3))
	some := func() [][]byte {
		out := make([][]byte, rnd.Intn(6))
		for i := range out {
			out[i] = make([]byte, rnd.Intn(200))
		}
		return out
	}
	for range 3000 {
		n := leaf.Node{Leaf: rnd.Intn(2) == 0, Keys: some(), Values: some(), Kids: make([]int, rnd.Intn(6))}
		a, key, b := leaf.Split(n)
		if len(n.Keys) < 3 {
			continue
		}
		if a.Leaf != n.Leaf || b.Leaf != n.Leaf || len(a.Keys) < 1 || len(b.Keys) < 1 || !same(together(a, key, b), n) {
			t.Fatalf("Split(%v) = %v, %v, %v", n, a, key, b)
		}
	}
	long := leaf.Node{Keys: make([][]byte, 300000)}
	if a, _, _ := leaf.Split(long); len(a.Keys) != 149999 {
		t.Errorf("a long one: %d keys in the first one", len(a.Keys))
	}
}

// smear writes over all memory of a node that its lists show or have to spare.
func smear(n leaf.Node) {
	for _, list := range [][][]byte{n.Keys, n.Values} {
		for _, text := range list[:cap(list)] {
			spoil(text)
		}
		clear(list[:cap(list)])
	}
	for i := range n.Kids[:cap(n.Kids)] {
		n.Kids[:cap(n.Kids)][i] = -7
	}
}

func spoil(text []byte) {
	for i := range text[:cap(text)] {
		text[:cap(text)][i] = '!'
	}
}

// roomy is a node like n whose lists all have room to spare.
func roomy(n leaf.Node) leaf.Node {
	list := func(list [][]byte) [][]byte {
		out := make([][]byte, 0, len(list)+3)
		for _, text := range list {
			out = append(out, append(make([]byte, 0, len(text)+3), text...))
		}
		return out
	}
	return leaf.Node{Leaf: n.Leaf, Keys: list(n.Keys), Values: list(n.Values), Kids: append(make([]int, 0, len(n.Kids)+3), n.Kids...)}
}

func TestMemory(t *testing.T) { // P8.4
	for _, n := range []leaf.Node{leafOf("a b c d", "1 2 3 4"), fork("a b c d", 1, 2, 3, 4, 5)} {
		mine, twin := roomy(n), roomy(n)
		key, value := []byte("key"), []byte("value")
		unchanged := func(how string) {
			t.Helper()
			if !reflect.DeepEqual(mine, twin) || string(key) != "key" || string(value) != "value" {
				t.Errorf("%s changed what it was handed", how)
			}
			for i, text := range mine.Keys[:cap(mine.Keys)] {
				if i >= len(mine.Keys) && text != nil || i < len(mine.Keys) && text[:cap(text)][len(text)] != 0 {
					t.Errorf("%s changed spare room", how)
				}
			}
		}
		a, between, b := leaf.Split(mine)
		smear(a)
		if string(between) != "b" && string(between) != "c" || !bytes.Equal(b.Keys[len(b.Keys)-1], []byte("d")) {
			t.Errorf("Split's answers share memory")
		}
		smear(b)
		if string(between) != "b" && string(between) != "c" {
			t.Errorf("Split's answers share memory")
		}
		spoil(between)
		unchanged("Split")
		for i := -1; i < 6; i++ {
			smear(leaf.With(mine, i, key, value))
			unchanged("With")
			smear(leaf.Without(mine, i))
			unchanged("Without")
		}
		for count := range 3 {
			few := mine
			few.Keys = mine.Keys[:count]
			if a, _, b := leaf.Split(few); len(b.Keys) == 0 {
				smear(a)
			}
			unchanged("Split of few")
		}
		smear(leaf.Join(mine, mine))
		unchanged("Join")
		page, _ := leaf.Encode(mine)
		back, _ := leaf.Decode(page)
		whole := bytes.Clone(page)
		smear(back)
		if !bytes.Equal(page, whole) {
			t.Errorf("Decode's node shares the page")
		}
		spoil(page)
		unchanged("Encode")
	}
}
