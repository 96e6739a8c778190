package pages

import (
	"strconv"
	"strings"

	"groyne/api"
	"groyne/parity"
)

// What may be known of a page; in the index they stand as bytes.
const (
	none  = iota // there is no such page
	blank        // it is full of noughts, and needs no file
	sideA
	sideB
)

// place tells where a page lies on the drive.
type place struct {
	now   byte // as it was put away last
	saved byte // as it was saved last
}

// spare answers the side that may be written over.
func (at place) spare() byte {
	if at.saved == sideA {
		return sideB
	}
	return sideA
}

// needs tells whether a side's file is there for something.
func (at place) needs(side byte) bool { return side == at.now || side == at.saved }

const (
	indexFile = "index"
	pageFile  = "page."
)

// file answers the name of a page's side.
func (p *Pool) file(id int, side byte) string {
	return p.Path(pageFile, strconv.Itoa(id), letter(side))
}

func letter(side byte) string {
	if side == sideA {
		return "a"
	}
	return "b"
}

// read answers a page that isn't at hand, as it was put away last. The drive is alive.
func (p *Pool) read(id int) (*sheet, api.Errno) {
	s := &sheet{id: id}
	side := p.places[id].now
	if side == blank {
		return s, api.OK
	}
	b, e := p.Read(p.file(id, side))
	if e != api.OK {
		return nil, api.ErrForm
	}
	page, _, e := parity.Open(b, 0)
	if e != api.OK || len(page) != api.PageSize {
		return nil, api.ErrForm
	}
	copy(s.page[:], page)
	return s, api.OK
}

// write lays a page at hand into its spare side, which is all that this changes.
func (p *Pool) write(s *sheet) api.Errno {
	record, _ := parity.Seal(s.page[:]) // a page is never too long for a record
	return p.Write(p.spareFile(s.id), 0, record)
}

func (p *Pool) spareFile(id int) string { return p.file(id, p.places[id].spare()) }

// needsRoom tells whether a page at hand can't be put away on a full drive.
func (p *Pool) needsRoom(s *sheet) bool {
	return s.changed && p.Size(p.spareFile(s.id)) < parity.Sealed(api.PageSize)
}

// tidy removes the files of sides that nothing needs: of pages that were freed, of older saves, and of what a crash cut.
func (p *Pool) tidy() api.Errno {
	for _, name := range p.Names(pageFile) {
		id, side := sideOf(name)
		if side == none || id < len(p.places) && p.places[id].needs(side) {
			continue
		}
		if e := p.Remove(p.Path(name)); e != api.OK {
			return e
		}
	}
	return api.OK
}

// sideOf answers which page's side has this name behind the prefix; the side none, if no pool has such a file.
func sideOf(name string) (int, byte) {
	for side := byte(sideA); side <= sideB; side++ {
		number, ok := strings.CutSuffix(strings.TrimPrefix(name, pageFile), letter(side))
		id, err := strconv.Atoi(number)
		if ok && err == nil && id >= 0 && id < mostPages && strconv.Itoa(id) == number {
			return id, side
		}
	}
	return 0, none
}
