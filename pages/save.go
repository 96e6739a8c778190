package pages

import (
	"bytes"
	"maps"
	"slices"

	"groyne/api"
	"groyne/drive"
	"groyne/pack"
	"groyne/parity"
)

// Save: all pages and a note are safe, all at once.
func (p *Pool) Save(note []byte) api.Errno {
	// What nothing needs any more makes room first.
	if e := p.tidy(); e != api.OK {
		return e
	}
	changed := p.changed()
	if e := p.lasting(changed, note); e != api.OK {
		if e == api.ErrFull {
			// The sides that were written for nothing give their room back.
			if dead := p.tidy(); dead != api.OK {
				return dead
			}
		}
		return e
	}
	for _, s := range changed {
		p.settle(s)
	}
	for id := range p.places {
		p.places[id].saved = p.places[id].now
	}
	if e := p.tidy(); e != api.OK {
		return e
	}
	return p.makeRoom(-1, p.limit)
}

// changed answers the pages at hand that no file has, by rising numbers.
func (p *Pool) changed() []*sheet {
	var list []*sheet
	for _, id := range slices.Sorted(maps.Keys(p.sheets)) {
		if s := p.sheets[id]; s.changed {
			list = append(list, s)
		}
	}
	return list
}

// lasting writes the changed pages, and then the index that has all take effect.
func (p *Pool) lasting(changed []*sheet, note []byte) api.Errno {
	index := make([]byte, len(p.places))
	for id, at := range p.places {
		index[id] = at.now
	}
	for _, s := range changed {
		if e := p.write(s); e != api.OK {
			return e
		}
		index[s.id] = p.places[s.id].spare()
	}
	var w pack.Writer
	w.Text(bytes.TrimRight(index, "\x00"), note) // numbers behind the last page need no room
	return drive.Replace(p.Drive, p.Path(indexFile), parity.Wrap(w.Bytes()))
}

// Open: the pool that was saved last, and its note.
func Open(d *drive.Drive, prefix string, hand int) (*Pool, []byte, api.Errno) {
	p := &Pool{Dir: drive.Dir{Drive: d, Prefix: prefix}, limit: max(hand, 1), sheets: map[int]*sheet{}}
	p.ring.older, p.ring.newer = &p.ring, &p.ring
	wrapped, e := d.Read(p.Path(indexFile))
	if e == api.ErrNone {
		return p, nil, api.OK
	}
	if e != api.OK {
		return nil, nil, e
	}
	b, e := parity.Unwrap(wrapped)
	if e != api.OK {
		return nil, nil, api.ErrForm
	}
	in := pack.Read(b)
	index, note := in.Text(), in.Text()
	if in.Close() != api.OK {
		return nil, nil, api.ErrForm
	}
	if e := p.know(index); e != api.OK {
		return nil, nil, e
	}
	return p, note, api.OK
}

// know takes what an index says, and looks whether all that it names is there.
func (p *Pool) know(index []byte) api.Errno {
	if len(index) > mostPages || len(index) > 0 && slices.Max(index) > sideB {
		return api.ErrForm
	}
	for id, at := range index {
		p.places = append(p.places, place{now: at, saved: at})
		if at == none {
			continue
		}
		p.count++
		if _, e := p.read(id); e != api.OK {
			return e
		}
	}
	return api.OK
}
