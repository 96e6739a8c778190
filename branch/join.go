package branch

import (
	"cmp"
	"slices"

	"groyne/api"
)

// done is a part with its outcome.
type done struct {
	Part
	Outcome
}

// Join: what the parts come to together.
func Join(ops []api.Op, parts []Part, outcomes ...Outcome) Outcome {
	list := ended(parts, outcomes)
	if o := firstFailed(list); o.Err != api.OK {
		return o
	}
	o := Outcome{Rows: make([][]api.Pair, len(ops))}
	for _, d := range list {
		d.putRows(o.Rows)
		for _, w := range d.Writes {
			o.Writes = append(o.Writes, copiedWrite(w))
		}
	}
	for i, op := range ops {
		if op.Kind == api.Scan {
			o.Rows[i] = first(o.Rows[i], op.Most)
		}
	}
	sortWrites(o.Writes)
	return o
}

// ended answers the parts with their outcomes, by rising shards: so a Scan's pieces come in the order of their keys.
func ended(parts []Part, outcomes []Outcome) []done {
	list := make([]done, len(parts))
	for i, part := range parts {
		list[i].Part = part
		if i < len(outcomes) {
			list[i].Outcome = outcomes[i]
		}
	}
	slices.SortStableFunc(list, func(a, b done) int { return cmp.Compare(a.Shard, b.Shard) })
	return list
}

// firstFailed answers the error with the least place in the request; none, if all went well.
func firstFailed(list []done) Outcome {
	var o Outcome
	for _, d := range list {
		if d.Err != api.OK && (o.Err == api.OK || d.place() < o.At) {
			o = Outcome{Err: d.Err, At: d.place()}
		}
	}
	return o
}

// place answers where in the request its At is.
func (d done) place() int {
	if d.At < 0 || d.At >= len(d.Index) {
		return 0
	}
	return d.Index[d.At]
}

// putRows puts its rows behind those of the request's ops. Rows may be wanting, and places that the request hasn't are passed over.
func (d done) putRows(rows [][]api.Pair) {
	for i, at := range d.Index {
		if i >= len(d.Rows) || at < 0 || at >= len(rows) {
			continue
		}
		for _, p := range d.Rows[i] {
			rows[at] = append(rows[at], copiedPair(p))
		}
	}
}
