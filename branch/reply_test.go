package branch_test

import (
	"bytes"
	"math"
	"math/rand"
	"testing"

	"groyne/api"
	"groyne/branch"
)

func someReplies() []branch.Outcome {
	pair := func(key, value string) api.Pair { return api.Pair{Key: []byte(key), Value: []byte(value)} }
	long := string(bytes.Repeat([]byte{'x'}, 1000))
	return []branch.Outcome{
		{},
		{Err: api.ErrGuard, At: 3},
		{Err: api.ErrStaleIncarnation, At: 15},
		{Err: -1, At: -1},
		{Err: math.MinInt, At: math.MaxInt},
		{Err: math.MaxInt, At: math.MinInt},
		{Err: 300, At: 300},
		{Rows: [][]api.Pair{nil}},
		{Rows: [][]api.Pair{{}, nil, {{}}}},
		{Rows: [][]api.Pair{{pair("a", "1"), pair("b", "")}, nil, {pair("", "2"), pair("\x00", "\xff")}}},
		{Err: api.ErrGuard, At: 1, Rows: [][]api.Pair{{pair("k", long)}, {pair(long, "v")}}},
		{Rows: make([][]api.Pair, 300)},
		{Rows: [][]api.Pair{make([]api.Pair, 300)}},
	}
}

func TestReply(t *testing.T) { // P12.4
	seen := map[string]int{}
	for i, o := range someReplies() {
		b := o.Reply()
		back, e := branch.ToReply(b)
		if e != api.OK || tell(back) != tell(o) {
			t.Errorf("P12.4: %s came back as %s, %d", tell(o), tell(back), e)
		}
		if other, again := seen[string(b)]; again {
			t.Errorf("P12.4: outcomes %d and %d have the same bytes", i, other)
		}
		seen[string(b)] = i
		o.Writes = []api.Write{{Key: []byte("a")}}
		if !bytes.Equal(o.Reply(), b) {
			t.Errorf("P12.4: Writes show in the bytes of %s", tell(o))
		}
	}
}

func TestReplyOfRuns(t *testing.T) { // P12.4
	rnd := rand.New(rand.NewSource(5))
	for range 2000 {
		o := branch.Run(&table{pairs: someState(rnd)}, someOps(rnd, api.MaxOps)...)
		back, e := branch.ToReply(o.Reply())
		o.Writes = nil
		if e != api.OK || tell(back) != tell(o) {
			t.Fatalf("P12.4: %s came back as %s, %d", tell(o), tell(back), e)
		}
	}
}

// refused: bytes of no outcome are told so, and with nothing beside the error.
func refused(t *testing.T, b []byte) {
	t.Helper()
	o, e := branch.ToReply(b)
	if e != api.ErrForm && e != api.ErrEnd || o.Err != 0 || o.At != 0 || len(o.Rows) != 0 || len(o.Writes) != 0 {
		t.Errorf("P12.4: ToReply(%v) = %s, %d", b, tell(o), e)
	}
}

func TestReplyOfOtherBytes(t *testing.T) { // P12.4
	refused(t, nil)
	refused(t, []byte{})
	for _, o := range someReplies() {
		b := o.Reply()
		for n := range b {
			refused(t, b[:n:n])
		}
		for _, more := range []byte{0, 1, 255} {
			refused(t, append(bytes.Clone(b), more))
		}
	}
	// Counts and lengths that no bytes could hold.
	huge := bytes.Repeat([]byte{255}, 9)
	for n := 2; n < 7; n++ { // behind Err and At
		for _, fill := range []byte{0, 1} {
			refused(t, append(bytes.Repeat([]byte{fill}, n), append(huge, make([]byte, n)...)...))
		}
	}
	// Whatever bytes there are: what is taken is what they are the bytes of.
	rnd := rand.New(rand.NewSource(4))
	taken := 0
	for range 100000 {
		b := make([]byte, rnd.Intn(12))
		for i := range b {
			b[i] = []byte{0, 0, 1, 2, 3, 247, 248, 255}[rnd.Intn(8)]
		}
		o, e := branch.ToReply(b)
		if e != api.OK {
			refused(t, b)
			continue
		}
		taken++
		if !bytes.Equal(o.Reply(), b) {
			t.Fatalf("P12.4: %v was taken as %s", b, tell(o))
		}
	}
	if taken == 0 {
		t.Error("P12.4: nothing was taken")
	}
}
