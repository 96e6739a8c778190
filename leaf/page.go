package leaf

import (
	"bytes"

	"groyne/api"
)

const (
	headSize = 3 // the kind, and how many keys there are
	leafKind = 1
	forkKind = 2
)

// Size: how many bytes its page needs.
func Size(n Node) int {
	size := headSize
	add := func(width int, list [][]byte) {
		for _, text := range list {
			size += width + len(text)
		}
	}
	add(1, n.Keys)
	if n.Leaf {
		add(2, n.Values)
	} else {
		size += 2 * len(n.Kids)
	}
	return size
}

// Encode: its page.
func Encode(n Node) ([]byte, api.Errno) {
	if e := Check(n); e != api.OK {
		return nil, e
	}
	if Size(n) > api.PageSize {
		return nil, api.ErrFull
	}
	page := make([]byte, api.PageSize)
	at := 0
	one := func(number int) {
		page[at] = byte(number)
		at++
	}
	two := func(number int) {
		one(number >> 8)
		one(number)
	}
	text := func(b []byte) { at += copy(page[at:], b) }

	one(kind(n))
	two(len(n.Keys))
	if !n.Leaf {
		two(n.Kids[0])
	}
	for i, key := range n.Keys {
		one(len(key))
		text(key)
		if n.Leaf {
			two(len(n.Values[i]))
			text(n.Values[i])
		} else {
			two(n.Kids[i+1])
		}
	}
	return page, api.OK
}

func kind(n Node) int {
	if n.Leaf {
		return leafKind
	}
	return forkKind
}

// Decode: the node of a page.
func Decode(page []byte) (Node, api.Errno) {
	if len(page) != api.PageSize {
		return Node{}, api.ErrSize
	}
	n := taken(page)
	// Whatever the page says, it is a node's just if that node's page is this one.
	if again, e := Encode(n); e != api.OK || !bytes.Equal(again, page) {
		return Node{}, api.ErrForm
	}
	return n, api.OK
}

// taken answers what can be taken from a page that may be none.
func taken(page []byte) Node {
	at := 0
	text := func(size int) []byte {
		size = min(size, len(page)-at)
		at += size
		return bytes.Clone(page[at-size : at])
	}
	number := func(size int) int {
		out := 0
		for _, b := range text(size) {
			out = out<<8 | int(b)
		}
		return out
	}

	n := Node{Leaf: number(1) == leafKind}
	count := number(2)
	if !n.Leaf {
		n.Kids = append(n.Kids, number(2))
	}
	// A page that isn't a node's may say more keys than it has bytes.
	for len(n.Keys) < count && at < len(page) {
		n.Keys = append(n.Keys, text(number(1)))
		if n.Leaf {
			n.Values = append(n.Values, text(number(2)))
		} else {
			n.Kids = append(n.Kids, number(2))
		}
	}
	return n
}
