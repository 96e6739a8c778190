package hlog_test

import (
	"fmt"
	"testing"

	"groyne/drive"
	"groyne/hlog"
	"groyne/rec"
)

func smear(b []byte) {
	b = b[:cap(b)]
	for i := range b {
		b[i] = '!'
	}
}

// roomy is the same record, all of whose memory has spare room.
func roomy(r rec.Rec) rec.Rec {
	r.Reply = append(make([]byte, 0, len(r.Reply)+8), r.Reply...)
	r.Shards = append(make([]int, 0, len(r.Shards)+8), r.Shards...)
	return r
}

func whole(recs []rec.Rec) string {
	out := ""
	for _, r := range recs {
		out += fmt.Sprintf("%+v %q %v", r, r.Reply[:cap(r.Reply)], r.Shards[:cap(r.Shards)])
	}
	return out
}

func smearRecs(recs []rec.Rec) {
	for _, r := range recs {
		smear(r.Reply)
		clear(r.Shards[:cap(r.Shards)])
	}
	clear(recs[:cap(recs)])
}

func TestMemory(t *testing.T) { // P18.4
	recs := make([]rec.Rec, 0, 20)
	for _, r := range story() {
		recs = append(recs, roomy(r))
	}
	ahead := whole(recs) + fmt.Sprint(recs[:cap(recs)])
	d, l := with(t)
	appends(t, l, 0, recs...)
	if whole(recs)+fmt.Sprint(recs[:cap(recs)]) != ahead {
		t.Error("P18.4: Append changed what it was handed")
	}
	smearRecs(recs)
	is(t, "P18.4: what was handed in is written over", l, story())
	for range 2 {
		for _, x := range rec.Touched(story()...) {
			got, _ := l.Decision(x)
			smear(got.Reply)
			clear(got.Shards[:cap(got.Shards)])
		}
		open, before, cuts := l.Open(), l.Before(99), l.Cuts()
		clear(open[:cap(open)])
		clear(before[:cap(before)])
		clear(cuts[:cap(cuts)])
		is(t, "P18.4: answers are written over", l, story())
		d.Crash(0)
		l = opened(t, d, 100)
	}
}

func TestRestoreMemory(t *testing.T) { // P18.4
	v := shelf()
	_, l := with(t, story()[:5]...)
	l.Save(v, 1)
	records := make([][]byte, 0, 20)
	for _, b := range texts(story()[5:]) {
		records = append(records, append(make([]byte, 0, len(b)+8), b...))
	}
	tellAll := func() string {
		out := fmt.Sprint(records[:cap(records)])
		for _, b := range records {
			out += fmt.Sprint(b[:cap(b)])
		}
		return out
	}
	ahead := tellAll()
	d := drive.New(1 << 22)
	r, _ := hlog.Restore(d, prefix, 100, v, hlog.Base{Id: 1, At: 5}, records...)
	if tellAll() != ahead {
		t.Error("P18.4: Restore changed what it was handed")
	}
	for _, b := range records {
		smear(b)
	}
	clear(records[:cap(records)])
	is(t, "P18.4", r, story())
	bases := hlog.Bases(v)
	clear(bases[:cap(bases)])
	appends(t, l, 5, story()[5:]...)
	other, _ := hlog.Restore(drive.New(1<<22), prefix, 100, v, hlog.Base{Id: 1, At: 5})
	is(t, "P18.4: what was saved doesn't go on", other, story()[:5])
}
