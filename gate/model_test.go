package gate_test

import (
	"fmt"
	"math/rand"
	"testing"

	"groyne/api"
	"groyne/cut"
	"groyne/gate"
	"groyne/shard"
)

// model is a gate, told plainly: what happened since the barrier that is under way began.
type model struct {
	shards, patience int
	shut             bool
	id               uint64
	name             string
	cut              []uint64 // none, ahead of its Cut
	marks            []string // "" of a shard that hasn't answered
	places           []uint64
	ticks            int
	results          []gate.Result
}

func (m *model) begin(id uint64, name string) api.Errno {
	if m.shut {
		return api.ErrBusy
	}
	m.shut, m.id, m.name, m.cut, m.ticks = true, id, name, nil, 0
	m.marks, m.places = make([]string, m.shards), make([]uint64, m.shards)
	return api.OK
}

func (m *model) wanting() []int {
	var list []int
	for at, mark := range m.marks {
		if mark == "" {
			list = append(list, at)
		}
	}
	return list
}

func (m *model) end(e api.Errno) {
	m.shut, m.results = false, append(m.results, gate.Result{Id: m.id, Name: m.name, Err: e})
}

func (m *model) logged(at uint64) {
	switch {
	case m.shut && m.cut == nil:
		m.cut = []uint64{at}
	case m.shut && len(m.wanting()) == 0:
		m.end(api.OK)
	}
}

func (m *model) answer(at int, a shard.Answer) {
	if m.shut && m.cut != nil && at >= 0 && at < m.shards && m.marks[at] == "" && a.Kind == shard.Mark && a.Err == 0 && a.Id == m.id {
		m.marks[at], m.places[at] = "stands", a.At
	}
}

func (m *model) tick() {
	if m.shut && m.cut != nil && len(m.wanting()) > 0 {
		m.ticks++
		if m.ticks == m.patience {
			m.end(api.ErrBarrierFailed)
		}
	}
}

func (m *model) look() looks {
	switch {
	case !m.shut:
		return isOpen()
	case m.cut == nil:
		return wantsCut(m.id, m.name)
	case len(m.wanting()) > 0:
		return waits(marks(m.id, m.name, m.wanting()...))
	}
	return wantsEnter(cut.Barrier{Id: m.id, Name: m.name, At: append(append([]uint64{}, m.places...), m.cut...)})
}

func TestModel(t *testing.T) { // P20.1, P20.2, P20.3
	count := map[api.Errno]int{}
	for seed := range int64(1000) {
		r := rand.New(rand.NewSource(seed))
		m := &model{shards: r.Intn(5), patience: 1 + r.Intn(5)}
		g := gate.New(m.shards, m.patience)
		for step := range 80 {
			id, name := uint64(r.Intn(4)), string(rune('a'+r.Intn(3)))
			what := fmt.Sprintf("seed %d, step %d", seed, step)
			switch n := r.Intn(40); {
			case n < 6:
				is(t, what+": Begin", g.Begin(id, name), m.begin(id, name))
			case n < 12:
				ahead := m.look()
				m.logged(uint64(step))
				sent := g.Logged(uint64(step))
				if ahead.wants != gate.Cut {
					is(t, what+": Logged", sent, marks(0, ""))
				} else {
					is(t, what+": Logged", sent, m.look().again)
				}
			case n < 15:
				g.Tick()
				m.tick()
			case n < 16:
				g.Fail()
				if m.shut {
					m.end(api.ErrBarrierFailed)
				}
			case n < 18:
				is(t, what+": Results", g.Results(), m.results)
				for _, result := range m.results {
					count[result.Err]++
				}
				m.results = nil
			default:
				at, a := anAnswer(r, m.id, uint64(step))
				g.Answer(at, a)
				m.answer(at, a)
			}
			says(t, what, g, m.look())
			if t.Failed() {
				return
			}
		}
	}
	if count[api.OK] < 500 || count[api.ErrBarrierFailed] < 500 {
		t.Errorf("what became of barriers: %v", count)
	}
}

// anAnswer is one that mostly fits.
func anAnswer(r *rand.Rand, id, place uint64) (int, shard.Answer) {
	a := mark(id, place)
	switch r.Intn(12) {
	case 0:
		a.Id = uint64(r.Intn(4))
	case 1:
		a.Err = api.ErrFull
	case 2:
		a.Kind = r.Intn(10)
	}
	return r.Intn(6) - 1, a
}

func TestMemory(t *testing.T) { // P20.4
	g := begun(t, 2, 3)
	sent := g.Retry()
	clear(sent[:cap(sent)])
	g.Answer(0, mark(7, 4))
	sent = g.Retry()
	clear(sent[:cap(sent)])
	says(t, "P20.4: what is sent is written over", g, waits(marks(7, "b", 1)))
	g.Answer(1, mark(7, 6))
	for range 2 {
		b, _ := g.Barrier()
		is(t, "P20.4: a barrier that is written over", b, cut.Barrier{Id: 7, Name: "b", At: []uint64{4, 6, 9}})
		clear(b.At[:cap(b.At)])
	}
	g.Logged(10)
	first := g.Results()
	g.Begin(8, "c")
	g.Fail()
	clear(first[:cap(first)])
	second := g.Results()
	g.Begin(9, "d")
	g.Fail()
	is(t, "P20.4: results", second, []gate.Result{{Id: 8, Name: "c", Err: api.ErrBarrierFailed}})
	clear(second[:cap(second)])
	is(t, "P20.4: results", g.Results(), []gate.Result{{Id: 9, Name: "d", Err: api.ErrBarrierFailed}})
}
