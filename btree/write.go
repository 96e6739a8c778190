package btree

import (
	"bytes"
	"slices"

	"groyne/api"
	"groyne/leaf"
)

// thinSize is far below half a page, so that what was cut in halves isn't joined again at once.
const thinSize = api.PageSize / 4

// Apply: writes, key by key.
func (t *Tree) Apply(writes ...api.Write) api.Errno {
	if slices.ContainsFunc(writes, tooLong) {
		return api.ErrSize
	}
	for _, w := range writes {
		if e := t.apply(w); e != api.OK {
			return e
		}
	}
	return api.OK
}

func tooLong(w api.Write) bool {
	return len(w.Key) > api.MaxKey || !w.Gone && len(w.Value) > api.MaxValue
}

func (t *Tree) apply(w api.Write) api.Errno {
	way, e := t.way(w.Key)
	if e != api.OK {
		return e
	}
	n, changed := written(way[len(way)-1].Node, w)
	if !changed {
		return api.OK
	}
	return t.settle(way, n)
}

// written answers a leaf with a write done, and whether that changed it.
func written(n leaf.Node, w api.Write) (leaf.Node, bool) {
	i, there := leaf.Find(n, w.Key)
	if w.Gone && !there || !w.Gone && there && bytes.Equal(n.Values[i], w.Value) {
		return n, false
	}
	if there {
		n = leaf.Without(n, i)
	}
	if !w.Gone {
		n = leaf.With(n, i, w.Key, w.Value)
	}
	return n, true
}

// settle has n instead of the last node of a way, and changes those above it as far as that asks for it.
func (t *Tree) settle(way []step, n leaf.Node) api.Errno {
	for last := len(way) - 1; last > 0; last-- {
		if fits(n) && !thin(n) {
			return t.lay(way[last].id, n)
		}
		above, e := t.regroup(way[last-1], n)
		if e != api.OK {
			return e
		}
		n = above
	}
	return t.settleRoot(n)
}

func fits(n leaf.Node) bool { return leaf.Size(n) <= api.PageSize }

func thin(n leaf.Node) bool { return leaf.Size(n) < thinSize }

// bare tells whether nothing is left of a node.
func bare(n leaf.Node) bool { return len(n.Keys) == 0 && len(n.Kids) == 0 }

// regroup lays a kid's new node: in halves, together with a neighbour, or not at all; it answers what the node above is then.
func (t *Tree) regroup(above step, n leaf.Node) (leaf.Node, api.Errno) {
	if bare(n) {
		return t.removed(above)
	}
	first, count := above.kid, 1
	if thin(n) && len(above.Kids) > 1 {
		first, count = min(above.kid, len(above.Kids)-2), 2
		both, e := t.together(above, first, n)
		if e != api.OK {
			return leaf.Node{}, e
		}
		n = both
	}
	nodes, keys := cut(n)
	ids, e := t.spread(above.Kids[first:first+count], nodes)
	if e != api.OK {
		return leaf.Node{}, e
	}
	out := above.Node
	out.Kids = slices.Replace(out.Kids, first, first+count, ids...)
	out.Keys = slices.Replace(out.Keys, first, first+count-1, keys...)
	return out, api.OK
}

// removed answers the node above without the kid of the way, nor the key ahead of it (of the first kid the one behind it).
func (t *Tree) removed(above step) (leaf.Node, api.Errno) {
	if _, e := t.spread(above.Kids[above.kid:above.kid+1], nil); e != api.OK {
		return leaf.Node{}, e
	}
	out := above.Node
	out.Kids = slices.Delete(out.Kids, above.kid, above.kid+1)
	if len(out.Keys) > 0 {
		key := max(above.kid-1, 0)
		out.Keys = slices.Delete(out.Keys, key, key+1)
	}
	return out, api.OK
}

// together answers two neighbours as one node, which may be too big; n is the one of the way.
func (t *Tree) together(above step, first int, n leaf.Node) (leaf.Node, api.Errno) {
	var pair [2]leaf.Node
	for i := range pair {
		pair[i] = n
		if first+i == above.kid {
			continue
		}
		other, e := t.node(above.Kids[first+i])
		if e != api.OK {
			return leaf.Node{}, e
		}
		pair[i] = other
	}
	a, b := pair[0], pair[1]
	switch {
	case a.Leaf != b.Leaf:
		return leaf.Node{}, api.ErrForm
	case a.Leaf:
		return leaf.Join(a, b), api.OK
	}
	between := [][]byte{above.Keys[first]}
	return leaf.Node{Keys: slices.Concat(a.Keys, between, b.Keys), Kids: slices.Concat(a.Kids, b.Kids)}, api.OK
}

// cut answers a node as one that fits, or as two, and the key between them. None is so big that two don't do: a page's node has got one entry more, or a thin one beside it.
func cut(n leaf.Node) (nodes []leaf.Node, keys [][]byte) {
	if fits(n) {
		return []leaf.Node{n}, nil
	}
	a, key, b := leaf.Split(n)
	return []leaf.Node{a, b}, [][]byte{key}
}

// settleRoot lays the root; it is cut, or takes what its only kid has, as long as it must.
func (t *Tree) settleRoot(n leaf.Node) api.Errno {
	if !fits(n) {
		nodes, keys := cut(n)
		ids, e := t.spread(nil, nodes)
		if e != api.OK {
			return e
		}
		n = leaf.Node{Keys: keys, Kids: ids}
	}
	for len(n.Kids) == 1 {
		id := n.Kids
		kid, e := t.node(id[0])
		if e != api.OK {
			return e
		}
		if _, e := t.spread(id, nil); e != api.OK {
			return e
		}
		n = kid
	}
	if bare(n) {
		n = leaf.Node{Leaf: true}
	}
	return t.lay(t.root, n)
}

// spread lays nodes into these pages, or more if they are too few, and frees those that are left; it answers the nodes' pages.
func (t *Tree) spread(ids []int, nodes []leaf.Node) ([]int, api.Errno) {
	ids = slices.Clone(ids)
	for len(ids) < len(nodes) {
		id, e := t.Alloc()
		if e != api.OK {
			return nil, e
		}
		ids = append(ids, id)
	}
	for i, n := range nodes {
		if e := t.lay(ids[i], n); e != api.OK {
			return nil, e
		}
	}
	for _, id := range ids[len(nodes):] {
		if e := t.Free(id); e != api.OK {
			return nil, ofKid(e)
		}
	}
	return ids[:len(nodes)], api.OK
}

// lay has a page be this node's.
func (t *Tree) lay(id int, n leaf.Node) api.Errno {
	page, e := leaf.Encode(n)
	if e != api.OK {
		return e
	}
	return ofKid(t.Put(id, page))
}
