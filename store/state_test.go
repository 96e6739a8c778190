package store_test

import (
	"bytes"
	"fmt"
	"maps"
	"slices"
	"strings"
	"testing"

	"groyne/api"
	"groyne/drive"
	"groyne/lock"
	"groyne/rec"
	"groyne/store"
)

// state is what a store has, told plainly.
type state struct {
	next   uint64
	pairs  map[string]string
	last   map[api.Txn]rec.Rec // the last record of each transaction
	at     map[api.Txn]uint64
	branch map[api.Txn]rec.Rec
	marks  map[uint64]uint64
	held   map[api.Txn][]api.Range
}

func nothing() state {
	return state{pairs: map[string]string{}, last: map[api.Txn]rec.Rec{}, at: map[api.Txn]uint64{}, branch: map[api.Txn]rec.Rec{}, marks: map[uint64]uint64{}, held: map[api.Txn][]api.Range{}}
}

func (m state) twin() state {
	return state{m.next, maps.Clone(m.pairs), maps.Clone(m.last), maps.Clone(m.at), maps.Clone(m.branch), maps.Clone(m.marks), maps.Clone(m.held)}
}

// opened is the state behind a crash: nobody holds anything but what is prepared.
func (m state) opened() state {
	m = m.twin()
	m.held = map[api.Txn][]api.Range{}
	for x, r := range m.branch {
		m.hold(x, r.Ranges)
	}
	return m
}

func (m state) hold(x api.Txn, ranges []api.Range) {
	held := slices.Clone(m.held[x])
	for _, r := range ranges {
		if !slices.ContainsFunc(held, func(h api.Range) bool { return lock.Covers(h, r) }) {
			held = append(held, r)
		}
	}
	m.held[x] = held
}

func wrongRange(r api.Range) bool {
	return len(r.From) > 65 || len(r.To) > 65 || len(r.To) > 0 && bytes.Compare(r.To, r.From) <= 0
}

// free tells whether a transaction may hold ranges.
func (m state) free(x api.Txn, ranges []api.Range) bool {
	if len(ranges) > 64 || slices.ContainsFunc(ranges, wrongRange) {
		return false
	}
	for y, held := range m.held {
		for _, h := range held {
			if y != x && slices.ContainsFunc(ranges, func(r api.Range) bool { return lock.Clash(h, r) }) {
				return false
			}
		}
	}
	return true
}

func tooLong(w api.Write) bool {
	return len(w.Key) > api.MaxKey || !w.Gone && len(w.Value) > api.MaxValue
}

// done brings the state on by a record; false: it can't be done.
func (m *state) done(r rec.Rec) bool {
	_, known := m.last[r.Txn]
	_, prepared := m.branch[r.Txn]
	_, stands := m.marks[r.Id]
	long := slices.ContainsFunc(r.Writes, tooLong)
	switch r.Kind {
	case rec.Prepare:
		if known || long || !m.free(r.Txn, r.Ranges) {
			return false
		}
		m.hold(r.Txn, r.Ranges)
		m.branch[r.Txn] = r
	case rec.Commit, rec.Abort:
		if !prepared {
			return false
		}
		if r.Kind == rec.Commit {
			m.write(m.branch[r.Txn].Writes)
		}
	case rec.One:
		if known || long {
			return false
		}
		m.write(r.Writes)
	case rec.Mark:
		if stands {
			return false
		}
		m.marks[r.Id] = m.next
	default:
		return false
	}
	if r.Kind != rec.Mark {
		m.last[r.Txn], m.at[r.Txn] = r, m.next
	}
	if r.Kind == rec.Commit || r.Kind == rec.Abort || r.Kind == rec.One {
		delete(m.branch, r.Txn)
		delete(m.held, r.Txn)
	}
	m.next++
	return true
}

func (m *state) write(writes []api.Write) {
	for _, w := range writes {
		if w.Gone {
			delete(m.pairs, string(w.Key))
		} else {
			m.pairs[string(w.Key)] = string(w.Value)
		}
	}
}

func rising(txns []api.Txn) string {
	slices.SortFunc(txns, lock.Compare)
	return fmt.Sprint(txns)
}

func tellRanges(ranges []api.Range) string {
	var out []string
	for _, r := range ranges {
		out = append(out, fmt.Sprintf("%q-%q %v", r.From, r.To, r.Excl))
	}
	return strings.Join(out, ", ")
}

func tellBranch(r rec.Rec) string {
	out := fmt.Sprintf("%d %v %v %v %q %d %q", r.Kind, r.Txn, r.Commit, r.Shards, r.Reply, r.Id, r.Name)
	for _, w := range r.Writes {
		out += fmt.Sprintf("; %q=%q %v", w.Key, w.Value, w.Gone)
	}
	return out + "; " + tellRanges(r.Ranges)
}

// tell tells all of the state that may be asked of a store.
func (m state) tell() string {
	out := fmt.Sprintln("next", m.next)
	for _, key := range slices.Sorted(maps.Keys(m.pairs)) {
		out += fmt.Sprintf("%q=%q\n", key, m.pairs[key])
	}
	var ones, committed []api.Txn
	for _, x := range slices.SortedFunc(maps.Keys(m.last), lock.Compare) {
		r := m.last[x]
		k := store.Known{Prepared: r.Kind == rec.Prepare, Commit: r.Kind == rec.Commit || r.Kind == rec.One, At: m.at[x]}
		if r.Kind == rec.One {
			k.Reply, ones = r.Reply, append(ones, x)
		}
		if k.Commit {
			committed = append(committed, x)
		}
		out += tellKnown(x, k)
	}
	for _, x := range slices.SortedFunc(maps.Keys(m.branch), lock.Compare) {
		r := m.branch[x]
		// What its kind doesn't use isn't in the log.
		out += fmt.Sprintln("branch", tellBranch(rec.Rec{Kind: r.Kind, Txn: r.Txn, Writes: r.Writes, Ranges: r.Ranges}))
	}
	out += fmt.Sprintln("ones", rising(ones), "committed", rising(committed))
	for _, id := range slices.Sorted(maps.Keys(m.marks)) {
		out += fmt.Sprintln("mark", id, m.marks[id])
	}
	for _, x := range slices.SortedFunc(maps.Keys(m.held), lock.Compare) {
		out += fmt.Sprintln(x, "holds", tellRanges(m.held[x]))
	}
	return out
}

func tellKnown(x api.Txn, k store.Known) string {
	return fmt.Sprintf("%v prepared %v commit %v reply %q at %d\n", x, k.Prepared, k.Commit, k.Reply, k.At)
}

// some are transactions, rising; those of boots below 3, sessions below 2.
func some(seqs uint64) []api.Txn {
	var txns []api.Txn
	for boot := range uint64(3) {
		for session := range uint64(2) {
			for seq := range seqs {
				txns = append(txns, api.Txn{Boot: boot, Session: session, Seq: seq})
			}
		}
	}
	return txns
}

const someMarks = 20

// tell tells the same of a store.
func tell(t *testing.T, s *store.Store) string {
	t.Helper()
	out := fmt.Sprintln("next", s.Next())
	pairs, e := s.Scan(nil, nil, 0)
	if e != api.OK || s.Check() != api.OK {
		t.Fatalf("P13.1: Scan: %d; the tree isn't sound", e)
	}
	for _, p := range pairs {
		out += fmt.Sprintf("%q=%q\n", p.Key, p.Value)
	}
	var branches []api.Txn
	for _, x := range some(100) {
		if k, known := s.Known(x); known {
			out += tellKnown(x, k)
		}
		if _, prepared := s.Branch(x); prepared {
			branches = append(branches, x)
		}
	}
	for _, x := range branches {
		r, _ := s.Branch(x)
		out += fmt.Sprintln("branch", tellBranch(r))
	}
	if !slices.Equal(s.Prepared(), branches) {
		t.Fatalf("P13.1: Prepared = %v, and %v have a branch", s.Prepared(), branches)
	}
	out += fmt.Sprintln("ones", s.Ones(), "committed", s.Committed())
	for id := range uint64(someMarks) {
		if at, stands := s.Marked(id); stands {
			out += fmt.Sprintln("mark", id, at)
		}
	}
	for _, x := range s.Locks().All() {
		out += fmt.Sprintln(x, "holds", tellRanges(s.Locks().Held(x)))
	}
	return out
}

func wantState(t *testing.T, what string, s *store.Store, m state) {
	t.Helper()
	if got, want := tell(t, s), m.tell(); got != want {
		t.Fatalf("%s: the store is\n%snot\n%s", what, got, want)
	}
}

const prefix = "s/"

func opened(t *testing.T, d *drive.Drive, o store.Options) *store.Store {
	t.Helper()
	s, e := store.Open(d, prefix, o)
	if e != api.OK || s == nil {
		t.Fatalf("Open: %d", e)
	}
	return s
}

func append1(t *testing.T, s *store.Store, recs ...rec.Rec) uint64 {
	t.Helper()
	at, e := s.Append(recs...)
	if e != api.OK {
		t.Fatalf("Append: %d", e)
	}
	return at
}

func answers(t *testing.T, what string, got, want api.Errno) {
	t.Helper()
	if got != want {
		t.Errorf("%s: %d, want %d", what, got, want)
	}
}
