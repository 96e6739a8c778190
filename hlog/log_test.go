package hlog_test

import (
	"cmp"
	"fmt"
	"slices"
	"strings"
	"testing"

	"groyne/api"
	"groyne/drive"
	"groyne/hlog"
	"groyne/lock"
	"groyne/rec"
)

func txn(n uint64) api.Txn { return api.Txn{Boot: 1, Seq: n} }

func decide(n uint64, commit bool, reply string, shards ...int) rec.Rec {
	return rec.Rec{Kind: rec.Decide, Txn: txn(n), Commit: commit, Shards: shards, Reply: []byte(reply)}
}
func end(n uint64) rec.Rec   { return rec.Rec{Kind: rec.End, Txn: txn(n)} }
func cut(id uint64) rec.Rec  { return rec.Rec{Kind: rec.Cut, Id: id, Name: fmt.Sprint("b", id)} }
func done(id uint64) rec.Rec { return rec.Rec{Kind: rec.Done, Id: id, Name: fmt.Sprint("b", id)} }

const prefix = "h/"

func answers(t *testing.T, what string, got, want api.Errno) {
	t.Helper()
	if got != want {
		t.Errorf("%s: %d, want %d", what, got, want)
	}
}

func opened(t *testing.T, d *drive.Drive, most int) *hlog.Log {
	t.Helper()
	l, e := hlog.Open(d, prefix, most)
	if e != api.OK || l == nil {
		t.Fatalf("Open: %d", e)
	}
	return l
}

// with is a log with these records, appended one by one.
func with(t *testing.T, recs ...rec.Rec) (*drive.Drive, *hlog.Log) {
	t.Helper()
	d := drive.New(1 << 22)
	l := opened(t, d, 100)
	for _, r := range recs {
		appends(t, l, l.Next(), r)
	}
	return d, l
}

func appends(t *testing.T, l *hlog.Log, want uint64, recs ...rec.Rec) {
	t.Helper()
	if at, e := l.Append(recs...); at != want || e != api.OK {
		t.Fatalf("P18.1: Append = %d, %d, want %d", at, e, want)
	}
}

// plainly tells what records come to, by going through them all.
func plainly(recs []rec.Rec) string {
	decisions, cuts := map[api.Txn]hlog.Decision{}, map[uint64]hlog.Cut{}
	for i, r := range recs {
		d, c := decisions[r.Txn], cuts[r.Id]
		switch r.Kind {
		case rec.Decide:
			decisions[r.Txn] = hlog.Decision{Commit: r.Commit, Shards: r.Shards, Reply: r.Reply, At: uint64(i)}
		case rec.End:
			d.Ended = true
			decisions[r.Txn] = d
		case rec.Cut:
			cuts[r.Id] = hlog.Cut{Id: r.Id, Name: r.Name, At: uint64(i)}
		case rec.Done:
			c.Done = true
			cuts[r.Id] = c
		}
	}
	var all, open []api.Txn
	for x, d := range decisions {
		all = append(all, x)
		if !d.Ended {
			open = append(open, x)
		}
	}
	slices.SortFunc(all, lock.Compare)
	slices.SortFunc(open, lock.Compare)
	out := fmt.Sprintf("next %d, open %v", len(recs), open)
	for _, x := range all {
		out += fmt.Sprintf(", %v: %+v", x, decisions[x])
	}
	for at := range uint64(len(recs)) + 2 {
		out += fmt.Sprintf(", before %d %v", at, slices.DeleteFunc(slices.Clone(all), func(x api.Txn) bool {
			return !decisions[x].Commit || decisions[x].At >= at
		}))
	}
	var list []hlog.Cut
	for _, c := range cuts {
		list = append(list, c)
	}
	slices.SortFunc(list, func(a, b hlog.Cut) int { return cmp.Compare(a.At, b.At) })
	return out + fmt.Sprintf(", cuts %+v", list)
}

// tell tells a log in the same words; of transactions those that are decided of these.
func tell(l *hlog.Log, recs []rec.Rec) string {
	all := rec.Touched(recs...)
	slices.SortFunc(all, lock.Compare)
	out := fmt.Sprintf("next %d, open %v", l.Next(), l.Open())
	for _, x := range all {
		if d, decided := l.Decision(x); decided {
			out += fmt.Sprintf(", %v: %+v", x, d)
		}
	}
	for at := range l.Next() + 2 {
		out += fmt.Sprintf(", before %d %v", at, l.Before(at))
	}
	return out + fmt.Sprintf(", cuts %+v", l.Cuts())
}

// is looks whether a log is what these records come to.
func is(t *testing.T, what string, l *hlog.Log, recs []rec.Rec) {
	t.Helper()
	if got, want := tell(l, recs), plainly(recs); got != want {
		t.Fatalf("%s: the log is\n%s, not\n%s", what, got, want)
	}
}

func TestExample(t *testing.T) { // the chapter's example 1
	_, l := with(t)
	appends(t, l, 0, decide(1, true, ""))
	if at, e := l.Append(decide(1, true, "")); at != 0 || e != api.ErrArg {
		t.Errorf("P18.1: twice: %d, %d", at, e)
	}
	appends(t, l, 1, cut(7), decide(2, true, ""))
	if got := fmt.Sprint(l.Before(1)); got != fmt.Sprint([]api.Txn{txn(1)}) {
		t.Errorf("P18.1: Before(1) = %s", got)
	}
	appends(t, l, 3, end(1))
	if got := fmt.Sprint(l.Open()); got != fmt.Sprint([]api.Txn{txn(2)}) {
		t.Errorf("P18.1: Open = %s", got)
	}
}

// story has all that a log can say.
func story() []rec.Rec {
	return []rec.Rec{
		decide(5, true, "r5", 0, 2, -1), cut(9), decide(3, false, "", 1), end(5), decide(8, true, strings.Repeat("r", 300)),
		done(9), cut(0), {Kind: rec.Decide, Txn: api.Txn{Boot: 2, Session: 1}, Commit: true, Shards: []int{3}}, end(3), cut(4), done(4),
	}
}

func TestLooks(t *testing.T) { // P18.1
	d := drive.New(1 << 22)
	l := opened(t, d, 100)
	for i, r := range story() {
		is(t, "P18.1", l, story()[:i])
		appends(t, l, uint64(i), r)
	}
	is(t, "P18.1", l, story())
	if l.Log().Next() != 11 || l.Log().First() != 0 || d.Queue() != 0 {
		t.Errorf("P18.1: the log goes from %d to %d, the queue has %d", l.Log().First(), l.Log().Next(), d.Queue())
	}
	for i, r := range story() {
		if texts, e := l.Log().Records(uint64(i), uint64(i+1)); e != api.OK || string(texts[0]) != string(r.Bytes()) {
			t.Errorf("P18.1: record %d is %q, %d", i, texts, e)
		}
	}
	for _, x := range []api.Txn{{}, txn(4), {Boot: 5, Seq: 1}} {
		if got, decided := l.Decision(x); decided || fmt.Sprintf("%+v", got) != fmt.Sprintf("%+v", hlog.Decision{}) {
			t.Errorf("P18.1: %v: %v", x, got)
		}
	}
	whole := opened(t, drive.New(1<<22), -7)
	appends(t, whole, 0, story()...)
	is(t, "P18.1: all at once", whole, story())
}

func TestAppendNothing(t *testing.T) { // P18.1
	d, l := with(t, story()...)
	appends(t, l, 11)
	d.Arm(0)
	appends(t, l, 11) // no deed is needed
	d.Flush()
	is(t, "P18.1", l, story())
	_, empty := with(t)
	appends(t, empty, 0)
	is(t, "P18.1", empty, nil)
}

func TestWhatCantBeDone(t *testing.T) { // P18.1
	other := decide(5, false, "another")
	for what, recs := range map[string][]rec.Rec{
		"decided":                    {decide(5, true, "r5", 0, 2, -1)},
		"decided otherwise":          {other},
		"decided and ended":          {decide(3, true, "")},
		"End of nothing":             {end(1)},
		"End twice":                  {end(5)},
		"End by a Cut's number":      {end(9)},
		"Cut twice":                  {cut(9)},
		"Cut of one that isn't Done": {cut(0)},
		"Done of nothing":            {done(1)},
		"Done twice":                 {done(9)},
		"Prepare":                    {{Kind: rec.Prepare, Txn: txn(1)}},
		"Commit":                     {{Kind: rec.Commit, Txn: txn(8)}},
		"Abort":                      {{Kind: rec.Abort, Txn: txn(8)}},
		"One":                        {{Kind: rec.One, Txn: txn(1)}},
		"Mark":                       {{Kind: rec.Mark, Id: 1}},
		"no kind":                    {{}},
		"a kind above":               {{Kind: 10}},
		"a kind below":               {{Kind: -1}},
		"a kind by its lowest bits":  {{Kind: 256 + rec.Cut, Id: 99}},
		"the last of several":        {decide(1, true, ""), cut(1), end(8), end(8)},
		"decided by another one":     {decide(1, true, ""), decide(1, true, "")},
		"cut by another one":         {cut(1), cut(1)},
		"done by another one":        {done(0), done(0)},
		"ended too early":            {end(1), decide(1, true, "")},
		"done too early":             {done(1), cut(1)},
		"too long, too":              {decide(1, true, strings.Repeat("r", api.MaxRecord)), cut(9)},
	} {
		d, l := with(t, story()...)
		ahead := files(d)
		for range 2 {
			if at, e := l.Append(recs...); at != 0 || e != api.ErrArg {
				t.Errorf("P18.1: %s: %d, %d", what, at, e)
			}
			is(t, "P18.1: "+what, l, story())
		}
		if files(d) != ahead {
			t.Errorf("P18.1: %s: the drive has changed", what)
		}
		appends(t, l, 11, end(8))
	}
}

func TestOneBehindTheOther(t *testing.T) { // P18.1
	_, l := with(t)
	recs := []rec.Rec{decide(1, true, "r"), end(1), cut(1), done(1), decide(2, false, ""), cut(2), end(2), done(2)}
	appends(t, l, 0, recs...)
	is(t, "P18.1", l, recs)
}

func TestTooLong(t *testing.T) { // P18.1
	d, l := with(t, story()...)
	ahead := files(d)
	if at, e := l.Append(cut(1), decide(1, true, strings.Repeat("r", api.MaxRecord))); at != 0 || e != api.ErrSize {
		t.Errorf("P18.1: %d, %d", at, e)
	}
	is(t, "P18.1", l, story())
	if files(d) != ahead {
		t.Error("P18.1: the drive has changed")
	}
	long := decide(1, true, strings.Repeat("r", api.MaxRecord-50))
	appends(t, l, 11, long)
	d.Crash(0)
	is(t, "P18.2", opened(t, d, 100), append(story(), long))
}

func TestFullDrive(t *testing.T) { // P18.1
	for room := 0; room < 1500; room += 13 {
		d := drive.New(room)
		l := opened(t, d, room%150)
		var recs []rec.Rec
		for _, r := range story() {
			ahead := files(d)
			_, e := l.Append(r)
			if e == api.OK {
				recs = append(recs, r)
			} else if e != api.ErrFull && e != api.ErrArg || files(d) != ahead {
				t.Fatalf("P18.1: room %d: %d", room, e)
			}
			is(t, "P18.1", l, recs)
		}
		d.Crash(0)
		is(t, "P18.2", opened(t, d, 100), recs)
	}
}

// files tells what lies on a drive.
func files(d *drive.Drive) string {
	out := ""
	for _, name := range d.List("") {
		b, _ := d.Read(name)
		out += fmt.Sprintf("%q: %x\n", name, b)
	}
	return out
}
