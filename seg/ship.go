package seg

import (
	"bytes"
	"strings"

	"groyne/api"
	"groyne/journal"
	"groyne/pack"
	"groyne/parity"
	"groyne/vault"
)

// What the names of a segment's two things begin with.
const (
	recordsThing = "seg."
	spanThing    = "man."
)

// thing is what a segment has, or is to have, on a shelf.
type thing struct {
	name string
	b    []byte
}

// Ship: all segments that get no more records are on the shelf.
func Ship(l *journal.Log, s vault.Shelf) (int, api.Errno) {
	var spans, records []thing
	for _, span := range closed(l) {
		spans = append(spans, thing{spanThing + vault.Number(span.From), span.sealed()})
	}
	// All is looked at ahead of all that is put: beside an error nothing has changed.
	count, e := wanting(s, spans)
	if e != api.OK {
		return 0, e
	}
	for _, span := range closed(l) {
		list, e := l.Records(span.From, span.To)
		if e != api.OK {
			return 0, e
		}
		records = append(records, thing{recordsThing + vault.Number(span.From), span.sealed(list...)})
	}
	if _, e := wanting(s, records); e != api.OK {
		return 0, e
	}
	// What is in the vault can't be taken back, so no crash may take it from the log.
	if count > 0 && l.Queue() > 0 {
		if e := l.Flush(); e != api.OK {
			return 0, e
		}
	}
	for i := range spans {
		s.Store(records[i].b, records[i].name)
		s.Store(spans[i].b, spans[i].name)
	}
	return count, api.OK
}

// closed answers the segments that have records and get no more.
func closed(l *journal.Log) []Span {
	var spans []Span
	for _, span := range l.Spans() {
		if span.From < span.To && span.To <= l.Closed() {
			spans = append(spans, Span(span))
		}
	}
	return spans
}

// wanting answers how many of these things don't lie on a shelf; ErrThere: something else does in one's place.
func wanting(s vault.Shelf, things []thing) (int, api.Errno) {
	count := 0
	for _, t := range things {
		b, e := s.Fetch(t.name)
		if e != api.OK {
			count++
		} else if !bytes.Equal(b, t.b) {
			return 0, api.ErrThere
		}
	}
	return count, api.OK
}

// sealed answers a thing's bytes. Those with the records begin like the other one's: so they aren't taken for another segment's.
func (span Span) sealed(records ...[]byte) []byte {
	// Neither two numbers nor what comes out of a log is too long to be sealed.
	b, _ := parity.Seal(span.text())
	for _, record := range records {
		sealed, _ := parity.Seal(record)
		b = append(b, sealed...)
	}
	return b
}

func (span Span) text() []byte { return pack.Number(span.From, span.To) }

// spanOf answers the span that a thing on the shelf tells; false: it tells none, or another one than its name.
func spanOf(s vault.Shelf, name string) (Span, bool) {
	from, ok := vault.ToNumber(strings.TrimPrefix(name, spanThing))
	b, e := s.Fetch(name)
	if !ok || e != api.OK {
		return Span{}, false
	}
	text, _, _ := parity.Open(b, 0)
	in := pack.Read(text)
	span := Span{in.Num(), in.Num()}
	return span, span.From == from && span.From < span.To && bytes.Equal(span.sealed(), b)
}

// records answers what the segment's other thing has; false: it isn't there, or isn't so.
func (span Span) records(s vault.Shelf) ([][]byte, bool) {
	b, e := s.Fetch(recordsThing, vault.Number(span.From))
	if e != api.OK {
		return nil, false
	}
	all, end := parity.OpenAll(b)
	if end < len(b) || len(all) == 0 || !bytes.Equal(all[0], span.text()) {
		return nil, false
	}
	return all[1:], uint64(len(all)-1) == span.To-span.From
}
