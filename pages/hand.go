package pages

import "groyne/api"

// sheet is a page at hand.
type sheet struct {
	id           int
	page         [api.PageSize]byte
	changed      bool // no file has these bytes
	older, newer *sheet
}

// lay has a page at hand as the newest one there.
func (p *Pool) lay(s *sheet) {
	if p.sheets[s.id] != nil {
		p.drop(s)
	}
	p.sheets[s.id] = s
	s.older, s.newer = p.ring.older, &p.ring
	s.older.newer, s.newer.older = s, s
}

func (p *Pool) drop(s *sheet) {
	delete(p.sheets, s.id)
	s.older.newer, s.newer.older = s.newer, s.older
}

// makeRoom puts away the oldest pages till at most so many are at hand beside the one of this number.
func (p *Pool) makeRoom(id, most int) api.Errno {
	over := len(p.sheets) - most
	if p.sheets[id] != nil {
		over--
	}
	// They go only when all is done: a drive that dies leaves all at hand.
	var away []*sheet
	full := false
	for s := p.ring.newer; s != &p.ring && len(away) < over; s = s.newer {
		if s.id == id || full && p.needsRoom(s) {
			continue
		}
		e := p.putAway(s)
		switch e {
		case api.OK:
			away = append(away, s)
		case api.ErrFull:
			full = true
		default:
			return e
		}
	}
	for _, s := range away {
		p.drop(s)
		p.Evicted++
	}
	return api.OK
}

func (p *Pool) putAway(s *sheet) api.Errno {
	if !s.changed {
		return api.OK
	}
	if e := p.write(s); e != api.OK {
		return e
	}
	p.settle(s)
	return api.OK
}

// settle is told that a page was written.
func (p *Pool) settle(s *sheet) {
	s.changed = false
	p.places[s.id].now = p.places[s.id].spare()
}
