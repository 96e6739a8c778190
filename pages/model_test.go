package pages_test

import (
	"bytes"
	"maps"
	"math/rand"
	"slices"
	"testing"

	"groyne/api"
	"groyne/drive"
	"groyne/pages"
)

// model is what a pool says it has.
type model struct {
	pages map[int][]byte
	note  []byte
}

func (m model) twin() model { return model{maps.Clone(m.pages), m.note} }

// is tells whether a pool has just this.
func (m model) is(p *pages.Pool, note []byte) bool {
	if !bytes.Equal(note, m.note) || p.Count() != len(m.pages) || !slices.Equal(p.Ids(), slices.Sorted(maps.Keys(m.pages))) {
		return false
	}
	for id, b := range m.pages {
		if got, e := p.Get(id); e != api.OK || !bytes.Equal(got, b) {
			return false
		}
	}
	return true
}

func (m model) least() int {
	id := 0
	for m.pages[id] != nil {
		id++
	}
	return id
}

// run is a pool beside its model, on a drive that may be armed or full.
type run struct {
	t     *testing.T
	rnd   *rand.Rand
	d     *drive.Drive
	p     *pages.Pool
	hand  int
	now   model
	saved model
	ample bool // there is room for all
}

// turn does one call; it answers what the pool may be behind a crash, if the drive died by it.
func (r *run) turn() []model {
	id := r.rnd.Intn(10) - 1
	switch r.rnd.Intn(8) {
	case 0, 1:
		want := r.now.least()
		if got, e := r.p.Alloc(); e != api.OK || got != want {
			r.t.Fatalf("Alloc = %d, %v, want %d", got, e, want)
		}
		r.now.pages[want] = make([]byte, api.PageSize)
	case 2:
		if e := r.p.Free(id); (e == api.OK) != (r.now.pages[id] != nil) {
			r.t.Fatalf("Free(%d): %v", id, e)
		}
		delete(r.now.pages, id)
	case 3, 4:
		return r.get(id)
	case 5, 6:
		return r.put(id)
	case 7:
		return r.save()
	}
	return nil
}

func (r *run) get(id int) []model {
	b, e := r.p.Get(id)
	if e == api.ErrDead {
		return []model{r.saved}
	}
	if want := r.now.pages[id]; want == nil && e != api.ErrArg || want != nil && e != api.OK || !bytes.Equal(b, want) {
		r.t.Fatalf("Get(%d): %v", id, e)
	}
	return nil
}

func (r *run) put(id int) []model {
	b := make([]byte, api.PageSize)
	r.rnd.Read(b)
	e := r.p.Put(id, b)
	if e == api.ErrDead {
		return []model{r.saved}
	}
	if there := r.now.pages[id] != nil; there != (e == api.OK) || !there && e != api.ErrArg {
		r.t.Fatalf("Put(%d): %v", id, e)
	}
	if e == api.OK {
		r.now.pages[id] = b
	}
	return nil
}

func (r *run) save() []model {
	next := r.now.twin()
	next.note = make([]byte, r.rnd.Intn(20))
	r.rnd.Read(next.note)
	switch e := r.p.Save(next.note); {
	case e == api.OK:
		r.now, r.saved = next, next.twin()
	case e == api.ErrDead:
		return []model{r.saved, next}
	case e != api.ErrFull || r.ample:
		r.t.Fatalf("Save: %v", e)
	}
	return nil
}

// reopen has the pool anew, which must be one of these.
func (r *run) reopen(may ...model) {
	p, note, e := pages.Open(r.d, prefix, r.hand)
	if e != api.OK {
		r.t.Fatalf("Open: %v", e)
	}
	i := slices.IndexFunc(may, func(m model) bool { return m.is(p, note) })
	if i < 0 {
		r.t.Fatalf("opened anew it is none of those %d that it may be: pages %v, note %v", len(may), p.Ids(), note)
	}
	r.p, r.now, r.saved = p, may[i].twin(), may[i].twin()
}

func (r *run) look() {
	if r.p.Hand() > max(r.hand, 1) && r.ample {
		r.t.Fatalf("%d at hand, of %d", r.p.Hand(), r.hand)
	}
	if r.p.Count() != len(r.now.pages) || !slices.Equal(r.p.Ids(), slices.Sorted(maps.Keys(r.now.pages))) {
		r.t.Fatalf("Ids = %v, Count = %d", r.p.Ids(), r.p.Count())
	}
}

func begin(t *testing.T, rnd *rand.Rand, room int) *run {
	r := &run{t: t, rnd: rnd, d: drive.New(room), hand: rnd.Intn(6) - 1, ample: room >= 1<<16}
	r.reopen(model{pages: map[int][]byte{}})
	return r
}

func TestScripts(t *testing.T) { // P7.1, P7.2, P7.3
	for seed := range int64(400) {
		r := begin(t, rand.New(rand.NewSource(seed)), 1<<16)
		for range 120 {
			if r.rnd.Intn(20) == 0 {
				r.d.Arm(r.rnd.Intn(12))
			}
			may := r.turn()
			r.look()
			switch {
			case len(may) > 0:
				r.d.Crash(r.rnd.Intn(1 << 20))
				r.reopen(may...)
			case r.rnd.Intn(25) == 0:
				r.d.Crash(r.rnd.Intn(1 << 20))
				r.reopen(r.saved)
			case r.rnd.Intn(25) == 0:
				r.d.Arm(-1)
				r.reopen(r.saved)
			}
		}
	}
}

func TestFullScripts(t *testing.T) { // P7.4
	for seed := range int64(600) {
		rnd := rand.New(rand.NewSource(seed))
		r := begin(t, rnd, rnd.Intn(8000))
		for range 120 {
			may := r.turn()
			r.look()
			if len(may) > 0 {
				t.Fatalf("a full drive isn't dead")
			}
			switch r.rnd.Intn(40) {
			case 0:
				r.d.Crash(r.rnd.Intn(1 << 20))
				r.reopen(r.saved)
			case 1:
				r.reopen(r.saved)
			}
		}
	}
}

// scripted does what kills a drive at many a deed: pages put away, and two saves; it answers what may be there if it died.
func scripted(t *testing.T, d *drive.Drive, hand int) []string {
	p, _, e := pages.Open(d, prefix, hand)
	if e != api.OK {
		t.Fatal(e)
	}
	for i := range 4 {
		p.Alloc()
		if e := p.Put(i, page(byte('a'+i))); e != api.OK {
			return []string{"|"}
		}
	}
	if e := p.Save([]byte("one")); e != api.OK {
		return []string{"|", "abcd|one"}
	}
	p.Free(1)
	for i, id := range []int{3, 0, 3, 2} {
		if id == 2 {
			p.Alloc()
		}
		if e := p.Put(id, page(byte('w'+i))); e != api.OK {
			return []string{"abcd|one"}
		}
	}
	p.Free(3)
	if e := p.Save([]byte("two")); e != api.OK {
		return []string{"abcd|one", "x0z|two"}
	}
	for id := range 3 {
		if e := p.Put(id, page('q')); e != api.OK {
			break
		}
	}
	return []string{"x0z|two"}
}

func TestEveryDeed(t *testing.T) { // P7.3
	for _, hand := range []int{1, 2, 3, 9} {
		for arm := 0; ; arm++ {
			d := drive.New(1 << 16)
			d.Arm(arm)
			may := scripted(t, d, hand)
			alive := !d.Dead()
			for keep := 0; keep < 6000; keep += 1 + keep%97 {
				cut := d.Twin()
				cut.Crash(keep)
				p, note := opened(t, cut, hand)
				if got := content(p) + "|" + string(note); !slices.Contains(may, got) {
					t.Fatalf("hand %d, dead behind %d deeds, %d units kept: %q is none of %q", hand, arm, keep, got, may)
				}
				save(t, p, "three")
				q, note := opened(t, cut, 2)
				if content(q) != content(p) || string(note) != "three" {
					t.Fatalf("hand %d, dead behind %d deeds, %d units kept: saved anew it is %q, %q", hand, arm, keep, content(q), note)
				}
			}
			if alive {
				break
			}
		}
	}
}

func TestFull(t *testing.T) { // P7.4
	d := drive.New(1 << 16)
	save(t, laid(t, d, 1, "abcd"), "note")
	d.Flush()
	used := d.Used()
	refused := 0
	for rest := range 5000 {
		d := drive.New(used + rest)
		p := laid(t, d, 4, "abcd")
		if e := p.Save([]byte("note")); e != api.OK {
			t.Fatalf("what needs %d bytes: %v in %d", used, e, used+rest)
		}
		for id, c := range []byte("wxyz") {
			put(t, p, id, c)
		}
		ahead := d.Used()
		e := p.Save([]byte("other"))
		want(t, p, "wxyz")
		q, note := opened(t, d, 1)
		if e == api.OK {
			if content(q) != "wxyz" || string(note) != "other" {
				t.Errorf("%d bytes more: %q, %q", rest, content(q), note)
			}
			break
		}
		refused++
		if e != api.ErrFull || content(q) != "abcd" || string(note) != "note" || d.Used() != ahead {
			t.Errorf("%d bytes more: %v, %q, %q, %d bytes used of %d", rest, e, content(q), note, d.Used(), ahead)
		}
	}
	if refused == 0 || refused == 5000 {
		t.Errorf("%d refused", refused)
	}
}

func TestNoRoomToPutAway(t *testing.T) { // P7.4
	d := drive.New(600)
	p := laid(t, d, 1, "abcd")
	want(t, p, "abcd")
	if p.Hand() != 3 || p.Stats().Evicted == 0 {
		t.Errorf("room for one page: %d at hand, %v", p.Hand(), p.Stats())
	}
	if e := p.Save(nil); e != api.ErrFull {
		t.Errorf("Save: %v", e)
	}
	want(t, p, "abcd")
	for id := range 3 {
		p.Free(id + 1)
	}
	save(t, p, "n")
	if p.Hand() > 1 {
		t.Errorf("behind Save %d are at hand", p.Hand())
	}
	want(t, p, "a")
}

// crowded is a drive on which another file leaves room for just this many bytes.
func crowded(room int) *drive.Drive {
	d := drive.New(1 << 16)
	d.Append("other", make([]byte, 1<<16-room))
	return d
}

func TestRoomAgain(t *testing.T) { // P7.4
	for _, id := range []int{0, 1, 2} {
		d := crowded(100)
		p := laid(t, d, 1, "abc")
		if p.Hand() != 3 {
			t.Errorf("%d at hand", p.Hand())
		}
		d.Remove("other")
		if b, e := p.Get(id); e != api.OK || b[0] != byte('a'+id) {
			t.Errorf("Get(%d): %v", id, e)
		}
		if p.Hand() != 1 || p.Stats() != (pages.Stats{Hits: 1, Evicted: 2}) {
			t.Errorf("room again for Get(%d): %d at hand, %v", id, p.Hand(), p.Stats())
		}
		want(t, p, "abc")
	}
	d := crowded(100)
	p := laid(t, d, 1, "abc")
	d.Remove("other")
	save(t, p, "")
	if p.Hand() != 1 {
		t.Errorf("room again for Save: %d at hand", p.Hand())
	}
}

func TestWhatNeedsNoRoom(t *testing.T) { // P7.4
	p := laid(t, crowded(532), 1, "ab") // 0 has a file
	want(t, p, "ab")                    // 1 has none, so both are at hand
	put(t, p, 0, 'x')
	id, _ := p.Alloc()
	put(t, p, id, 'c')
	if p.Hand() != 2 {
		t.Errorf("a page with a file of its own: %d at hand", p.Hand())
	}
	want(t, p, "xbc")

	p = laid(t, crowded(0), 1, "ab")
	for range 3 {
		id, _ := p.Alloc()
		if b, e := p.Get(id); e != api.OK || !bytes.Equal(b, page(0)) {
			t.Errorf("a page of noughts: %v", e)
		}
	}
	if p.Hand() != 3 {
		t.Errorf("pages of noughts: %d at hand", p.Hand())
	}
}

func TestSaveNeedsWhatChanged(t *testing.T) { // P7.4
	d := drive.New(4*532 + 100)
	p := laid(t, d, 4, "abcd")
	for i := range 5 {
		save(t, p, string(rune('0'+i)))
	}
	want(t, p, "abcd")

	d = drive.New(4*532 + 100)
	p = laid(t, d, 1, "abcde")
	for id := range 4 {
		p.Free(id)
	}
	save(t, p, "room of pages that were freed")
	want(t, p, "----e")
}

func TestFreedRoom(t *testing.T) { // P7.4: what nothing needs gives its room back
	d := drive.New(1 << 16)
	p := laid(t, d, 1, "abcdefgh")
	save(t, p, "")
	for id := range 7 {
		p.Free(id)
	}
	save(t, p, "")
	if d.Used() > 1000 {
		t.Errorf("a page needs %d bytes", d.Used())
	}
	for range 5 {
		laid, _ := opened(t, d, 1)
		for range 4 {
			id, _ := laid.Alloc()
			put(t, laid, id, 'x')
		}
		d.Crash(-1)
	}
	p, _ = opened(t, d, 1)
	want(t, p, "-------h")
	save(t, p, "")
	if d.Used() > 1000 {
		t.Errorf("what crashes left: %d bytes", d.Used())
	}
}
