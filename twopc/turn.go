package twopc

import (
	"slices"

	"groyne/branch"
	"groyne/shard"
)

// turn is what shards are asked at a time. The zero one asks none.
type turn struct {
	asked   []int // rising
	ask     func(at int) shard.Ask
	answers map[int]branch.Outcome
}

// awaits: is the answer of this shard wanting?
func (t turn) awaits(at int) bool {
	_, answered := t.answers[at]
	_, asked := slices.BinarySearch(t.asked, at)
	return asked && !answered
}

// fits: is it the first answer of this shard to what it was asked?
func (t turn) fits(at int, a shard.Answer) bool {
	if !t.awaits(at) {
		return false
	}
	ask := t.ask(at)
	return a.Kind == ask.Kind && a.Txn == ask.Txn
}

// answered takes a shard's answer, and tells whether it was the last one.
func (t turn) answered(at int, o branch.Outcome) bool {
	t.answers[at] = o
	return len(t.answers) == len(t.asked)
}

// unanswered makes the asks of all whose answers are wanting.
func (t turn) unanswered() []Send {
	var list []Send
	for _, at := range t.asked {
		if t.awaits(at) {
			list = append(list, Send{at, t.ask(at)})
		}
	}
	return list
}
