package branch_test

import (
	"bytes"
	"fmt"
	"testing"

	"groyne/api"
	"groyne/branch"
)

// fixed is a reader that hands out its own memory, the same each time.
type fixed []api.Pair

func (f fixed) Scan(from, to []byte, most int) ([]api.Pair, api.Errno) {
	for i, p := range f {
		if bytes.Compare(p.Key, from) < 0 {
			continue
		}
		end := i
		for end < len(f) && (len(to) == 0 || bytes.Compare(f[end].Key, to) < 0) && end-i < most {
			end++
		}
		return f[i:end], api.OK
	}
	return nil, api.OK
}

// roomy: bytes with spare room behind.
func roomy(s string) []byte {
	return append(make([]byte, 0, len(s)+8), s...)
}

// whole tells bytes with their spare room.
func whole(lists ...[]byte) string {
	out := ""
	for _, b := range lists {
		out += fmt.Sprintf("%q ", b[:cap(b)])
	}
	return out
}

// smear writes over bytes and their spare room.
func smear(lists ...[]byte) {
	for _, b := range lists {
		b = b[:cap(b)]
		for i := range b {
			b[i] = '!'
		}
	}
}

// smearAll goes through bytes one by one; the rest must not change with any of them.
func smearAll(t *testing.T, what string, lists [][]byte) {
	t.Helper()
	for i, b := range lists {
		ahead := whole(lists[i+1:]...)
		smear(b)
		if whole(lists[i+1:]...) != ahead {
			t.Errorf("P12.6: %s: lists of the answer share memory", what)
		}
	}
}

func opBytes(ops []api.Op) [][]byte {
	var out [][]byte
	for _, op := range ops {
		out = append(out, op.Key, op.Value)
	}
	return out
}

func outcomeBytes(o branch.Outcome) [][]byte {
	var out [][]byte
	for _, row := range o.Rows {
		for _, p := range row {
			out = append(out, p.Key, p.Value)
		}
	}
	for _, w := range o.Writes {
		out = append(out, w.Key, w.Value)
	}
	return out
}

func roomyOps() []api.Op {
	ops := make([]api.Op, 0, 20)
	for _, op := range []api.Op{get("b"), get("b"), scan("a", "z", 9), put("c", "1"), get("c"), get("c"), scan("", "", 9), expect("b", "2"), absent("q"), del("b"), put("y", "1")} {
		ops = append(ops, api.Op{Kind: op.Kind, Key: roomy(string(op.Key)), Value: roomy(string(op.Value)), Most: op.Most})
	}
	return ops
}

func TestMemory(t *testing.T) { // P12.6
	ops := roomyOps()
	reader := fixed{{Key: roomy("a"), Value: roomy("1")}, {Key: roomy("b"), Value: roomy("2")}, {Key: roomy("d"), Value: roomy("3")}}
	splits := [][]byte{roomy("b"), roomy("m")}
	handed := append(opBytes(ops), splits...)
	for _, p := range reader {
		handed = append(handed, p.Key, p.Value)
	}
	tellAll := func() string {
		return whole(handed...) + tellOps(ops[:cap(ops)]) + fmt.Sprintf("%q", splits) + tellRows([][]api.Pair{reader})
	}
	ahead := tellAll()

	check := func(what string, lists [][]byte) {
		t.Helper()
		if tellAll() != ahead {
			t.Errorf("P12.6: %s changed what it was handed", what)
		}
		smearAll(t, what, lists)
		if tellAll() != ahead {
			t.Errorf("P12.6: %s's answer shares memory with what it was handed", what)
		}
	}
	branch.Check(ops...)
	branch.Splits(splits...)
	var locked [][]byte
	for _, r := range branch.Locks(ops...) {
		locked = append(locked, r.From, r.To)
	}
	check("Locks", locked)
	o := branch.Run(reader, ops...)
	if o.Err != api.OK || len(o.Writes) != 3 {
		t.Fatalf("Run = %s", tell(o))
	}
	check("Run", outcomeBytes(o))
	clear(o.Rows[2][:cap(o.Rows[2])])
	check("Run's rows", nil)

	var parted [][]byte
	for _, p := range branch.Parts(splits, ops...) {
		parted = append(parted, opBytes(p.Ops)...)
		clear(p.Ops[:cap(p.Ops)])
	}
	check("Parts", parted)
}

func TestJoinMemory(t *testing.T) { // P12.6
	ops := roomyOps()
	parts := branch.Parts(texts("b", "m"), ops...)
	same := []api.Pair{{Key: roomy("k"), Value: roomy("v")}}
	var outcomes []branch.Outcome
	for _, p := range parts {
		o := branch.Outcome{Writes: append(make([]api.Write, 0, 4), api.Write{Key: roomy("y"), Value: roomy("1")}, api.Write{Key: roomy("x"), Value: roomy("2")})}
		for range p.Ops {
			o.Rows = append(o.Rows, same[:1:1])
		}
		outcomes = append(outcomes, o)
	}
	tellAll := func() string {
		out := tellOps(ops) + tellParts(parts) + whole(opBytes(ops)...)
		for _, o := range outcomes {
			out += tell(o) + tellWrites(o.Writes[:cap(o.Writes)]) + whole(outcomeBytes(o)...)
		}
		return out
	}
	ahead := tellAll()
	got := branch.Join(ops, parts, outcomes...)
	if tellAll() != ahead {
		t.Error("P12.6: Join changed what it was handed")
	}
	smearAll(t, "Join", outcomeBytes(got))
	clear(got.Rows[0][:cap(got.Rows[0])])
	clear(got.Writes[:cap(got.Writes)])
	if tellAll() != ahead {
		t.Error("P12.6: Join's answer shares memory with what it was handed")
	}
}

func TestReplyMemory(t *testing.T) { // P12.6
	o := branch.Outcome{Rows: [][]api.Pair{{{Key: roomy("k"), Value: roomy("v")}, {Key: roomy(""), Value: roomy("w")}}, nil}}
	ahead := whole(outcomeBytes(o)...) + tell(o)
	b := o.Reply()
	bytesAhead := whole(b)
	back, _ := branch.ToReply(b)
	if whole(b) != bytesAhead {
		t.Error("P12.6: ToReply changed what it was handed")
	}
	smearAll(t, "ToReply", outcomeBytes(back))
	if whole(b) != bytesAhead {
		t.Error("P12.6: ToReply's answer shares memory with what it was handed")
	}
	back, _ = branch.ToReply(b)
	smear(b)
	if whole(outcomeBytes(o)...)+tell(o) != ahead || tell(back) != tell(o) {
		t.Error("P12.6: Reply's bytes share memory")
	}
}
