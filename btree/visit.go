package btree

import (
	"groyne/api"
	"groyne/leaf"
	"groyne/pack"
)

// step is a node on the way down to a leaf.
type step struct {
	leaf.Node
	id  int
	kid int // the place of the kid that the way goes on to
}

// way answers the nodes from the root to the leaf where a key belongs.
func (t *Tree) way(key []byte) ([]step, api.Errno) {
	var way []step
	for id := t.root; ; {
		// A way with more nodes than there are pages never comes to a leaf.
		if len(way) == t.Count() {
			return nil, api.ErrForm
		}
		n, e := t.node(id)
		if e != api.OK {
			return nil, e
		}
		if n.Leaf {
			return append(way, step{Node: n, id: id}), api.OK
		}
		i, same := leaf.Find(n, key)
		if same {
			i++
		}
		way = append(way, step{n, id, i})
		id = n.Kids[i]
	}
}

// node answers the node that a page has. A number that no page has is told as a fault of the node that names it.
func (t *Tree) node(id int) (leaf.Node, api.Errno) {
	page, e := t.Pool.Get(id)
	if e != api.OK {
		return leaf.Node{}, ofKid(e)
	}
	return leaf.Decode(page)
}

func ofKid(e api.Errno) api.Errno {
	if e == api.ErrArg {
		return api.ErrForm
	}
	return e
}

// spot is where a node stands in a tree: its keys are from low on, and below high unless it is the last one.
type spot struct {
	id        int
	depth     int
	low, high []byte
	last      bool // an empty high isn't the same: below that there is no key
}

// visit shows look the nodes that may have keys from from on and below to (all, if both are empty), each ahead of those below it and these in the order of their keys, till it answers false.
func (t *Tree) visit(from, to []byte, look func(at spot, n leaf.Node) bool) api.Errno {
	todo := []spot{{id: t.root, depth: 1, last: true}}
	// Without this a page that is in many places would be visited over and over, perhaps for ever.
	seen := map[int]struct{}{t.root: {}}
	for len(todo) > 0 {
		at := todo[len(todo)-1]
		todo = todo[:len(todo)-1]
		n, e := t.node(at.id)
		if e != api.OK {
			return e
		}
		if !look(at, n) {
			return api.OK
		}
		for i := len(n.Kids) - 1; i >= 0; i-- {
			kid := at.below(n, i)
			if !kid.meets(from, to) {
				continue
			}
			if _, twice := seen[kid.id]; twice {
				return api.ErrForm
			}
			seen[kid.id] = struct{}{}
			todo = append(todo, kid)
		}
	}
	return api.OK
}

// below answers the spot of a kid.
func (at spot) below(n leaf.Node, i int) spot {
	kid := spot{n.Kids[i], at.depth + 1, at.low, at.high, at.last}
	if i > 0 {
		kid.low = n.Keys[i-1]
	}
	if i < len(n.Keys) {
		kid.high, kid.last = n.Keys[i], false
	}
	return kid
}

// meets tells whether a key of a range may be there.
func (at spot) meets(from, to []byte) bool {
	early := len(to) == 0 || pack.Compare(at.low, to) < 0
	late := len(from) == 0 || at.last || pack.Compare(at.high, from) > 0
	return early && late
}

// holds tells whether all keys of a node may stand there.
func (at spot) holds(n leaf.Node) bool {
	for _, key := range n.Keys {
		if pack.Compare(key, at.low) < 0 || !at.last && pack.Compare(key, at.high) >= 0 {
			return false
		}
	}
	return true
}

// Check: is something wrong?
func (t *Tree) Check() api.Errno {
	good := true
	depth := 0 // of the leaves, from the first one on
	e := t.visit(nil, nil, func(at spot, n leaf.Node) bool {
		good = at.holds(n)
		if n.Leaf {
			if depth == 0 {
				depth = at.depth
			}
			bare := len(n.Keys) == 0 && at.id != t.root
			good = good && depth == at.depth && !bare
		}
		return good
	})
	if !good {
		return api.ErrForm
	}
	return e
}
