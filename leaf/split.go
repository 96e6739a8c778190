package leaf

import "bytes"

// Split: two nodes, and the key between them.
func Split(n Node) (Node, []byte, Node) {
	if len(n.Keys) < 2 || !n.Leaf && len(n.Keys) < 3 {
		return copied(n), nil, Node{}
	}
	i := middle(n)
	// A leaf's key between is the second one's first key; else it goes to neither.
	second := i
	if !n.Leaf {
		second = i + 1
	}
	a, b := Node{Leaf: n.Leaf, Keys: n.Keys[:i]}, Node{Leaf: n.Leaf, Keys: n.Keys[second:]}
	a.Values, b.Values = parted(n.Values, i)
	a.Kids, b.Kids = parted(n.Kids, i+1)
	return copied(a), bytes.Clone(n.Keys[i]), copied(b)
}

// parted cuts a list at a place, or at its end: a node that isn't in form may have too few values or kids.
func parted[T any](list []T, at int) (front, back []T) {
	at = min(at, len(list))
	return list[:at], list[at:]
}

// middle answers how many keys the first node gets in a split.
func middle(n Node) int {
	whole := Size(n)
	best, least := 0, 0
	fronts(n, func(i, front int) {
		// Both nodes have a head, and what isn't the first one's is the second one's, but for the key that a fork loses.
		back := whole + headSize - front
		if !n.Leaf {
			back -= 1 + len(n.Keys[i])
		}
		if greater := max(front, back); best == 0 || greater < least {
			best, least = i, greater
		}
	})
	return best
}

// fronts calls look with each number of keys that the first node of a split may have, rising, and its size then.
func fronts(n Node, look func(i, front int)) {
	last := len(n.Keys) - 1
	if !n.Leaf {
		last--
	}
	front := headSize
	if !n.Leaf {
		front += 2 * min(1, len(n.Kids))
	}
	for i := range last {
		front += 1 + len(n.Keys[i])
		switch {
		case n.Leaf && i < len(n.Values):
			front += 2 + len(n.Values[i])
		case !n.Leaf && i+1 < len(n.Kids):
			front += 2
		}
		look(i+1, front)
	}
}
