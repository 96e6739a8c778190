package branch

import (
	"bytes"
	"slices"

	"groyne/api"
	"groyne/pack"
)

// Splits: the error of splits.
func Splits(splits ...[]byte) api.Errno {
	long := func(split []byte) bool { return len(split) > api.MaxKey }
	if len(splits) > api.MaxShards-1 || slices.ContainsFunc(splits, long) {
		return api.ErrSize
	}
	var ahead []byte // none is empty: the first one, too, is above nothing
	for _, split := range splits {
		if pack.Compare(ahead, split) >= 0 {
			return api.ErrForm
		}
		ahead = split
	}
	return api.OK
}

// Part of a request: what one shard does of it.
type Part struct {
	Shard int
	Ops   []api.Op
	Index []int
}

// Parts: a request, parted among shards.
func Parts(splits [][]byte, ops ...api.Op) []Part {
	var parts []Part
	for shard := range len(splits) + 1 {
		part := Part{Shard: shard}
		keys := shardKeys(splits, shard)
		for i, op := range ops {
			if piece, some := within(keys, op); some {
				part.Ops = append(part.Ops, piece)
				part.Index = append(part.Index, i)
			}
		}
		if len(part.Ops) > 0 {
			parts = append(parts, part)
		}
	}
	return parts
}

// shardKeys answers the keys that a shard has.
func shardKeys(splits [][]byte, shard int) api.Range {
	var keys api.Range
	if shard > 0 {
		keys.From = splits[shard-1]
	}
	if shard < len(splits) {
		keys.To = splits[shard]
	}
	return keys
}

// within answers what a shard with these keys does of an op; false: nothing.
func within(keys api.Range, op api.Op) (api.Op, bool) {
	touched, some := lockOf(op)
	if !some {
		return api.Op{}, false
	}
	from, to := later(touched.From, keys.From), sooner(touched.To, keys.To)
	if !hasKeys(from, to) {
		return api.Op{}, false
	}
	piece := api.Op{Kind: op.Kind, Key: bytes.Clone(op.Key), Value: bytes.Clone(op.Value), Most: op.Most}
	if op.Kind == api.Scan {
		piece.Key, piece.Value = bytes.Clone(from), bytes.Clone(to)
	}
	return piece, true
}

// later answers where a range begins that begins at both.
func later(a, b []byte) []byte {
	if pack.Compare(a, b) < 0 {
		return b
	}
	return a
}

// sooner answers where a range ends that ends at both; an empty end is none.
func sooner(a, b []byte) []byte {
	if len(a) == 0 || len(b) > 0 && pack.Compare(b, a) < 0 {
		return b
	}
	return a
}
