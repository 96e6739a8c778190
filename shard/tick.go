package shard

import (
	"groyne/api"
	"groyne/dump"
	"groyne/seg"
)

// Doubt: an inquiry.
type Doubt struct {
	Inc, Boot uint64
	Txn       api.Txn
}

// How many pairs a tick adds to a backup.
const stride = 8

// Tick: its clock goes on.
func (s *Shard) Tick() ([]Doubt, api.Errno) {
	if s.stale {
		return nil, api.OK
	}
	// What goes wrong here is tried again at the next tick, unless the drive died.
	seg.Ship(s.Log(), s.shelf)
	s.goOnCopying()
	s.checkpoint()
	if s.Dead() {
		return nil, api.ErrDead
	}
	return s.doubts(), api.OK
}

func (s *Shard) goOnCopying() {
	if open := dump.Open(s.shelf); len(open) > 0 {
		dump.Step(s.Store, s.shelf, open[0], stride)
	}
}

// checkpoint makes one, if it is time. What isn't in the archive yet stays in the log.
func (s *Shard) checkpoint() {
	if s.every < 1 || s.Next()-s.saved < uint64(s.every) {
		return
	}
	s.Keep(seg.Reach(s.shelf, s.Log().First()))
	if s.Checkpoint() == api.OK {
		s.saved = s.Next()
	}
}

// doubts answers for which prepared transactions it is time to ask.
func (s *Shard) doubts() []Doubt {
	var list []Doubt
	waits := map[api.Txn]int{}
	for _, x := range s.Prepared() {
		waits[x] = s.waits[x] + 1 // at least 1, so a lesser patience counts as that
		if waits[x] >= s.patience {
			list = append(list, Doubt{s.inc, s.boot, x})
			waits[x] = 0
		}
	}
	s.waits = waits
	return list
}
