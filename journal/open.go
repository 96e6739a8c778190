package journal

import (
	"cmp"
	"slices"
	"strconv"
	"strings"

	"groyne/api"
	"groyne/drive"
	"groyne/pack"
	"groyne/parity"
)

// Open answers the journal that lies there, and tidies up what a crash left behind its last whole record.
func Open(d *drive.Drive, prefix string, most int) (*Log, api.Errno) {
	l := empty(d, prefix, most)
	names := l.names()
	for i, name := range names {
		b, e := l.Read(name)
		if e != api.OK {
			return nil, e
		}
		f, whole := look(b)
		if !l.joins(f, name) {
			if e := l.removeFromBack(names[i:]); e != api.OK {
				return nil, e
			}
			break
		}
		l.files = append(l.files, f)
		if whole == len(b) {
			continue
		}
		// Trimmed last: as long as it doesn't open to its end, an opening that was cut goes on just here.
		if e := l.removeFromBack(names[i+1:]); e != api.OK {
			return nil, e
		}
		if e := l.Trim(name, whole); e != api.OK {
			return nil, e
		}
		break
	}
	// Even if all was tidy: what is closed must be safe.
	if e := l.Flush(); e != api.OK {
		return nil, e
	}
	return l, api.OK
}

// Begin answers an empty journal whose next record has this index.
func Begin(d *drive.Drive, prefix string, most int, at uint64) (*Log, api.Errno) {
	l := empty(d, prefix, most)
	if len(l.names()) > 0 {
		return nil, api.ErrThere
	}
	f := file{Span: Span{at, at}, serial: 1}
	if e := l.Drive.Append(l.name(f.serial), f.head()); e != api.OK {
		return nil, e
	}
	if e := l.Flush(); e != api.OK {
		return nil, e
	}
	l.files = []file{f}
	return l, api.OK
}

func empty(d *drive.Drive, prefix string, most int) *Log {
	return &Log{Drive: d, prefix: prefix, most: max(most, 1), closed: true}
}

func (l *Log) name(serial uint64) string {
	return l.prefix + strconv.FormatUint(serial, 10)
}

// names answers the journal's files on the drive, by rising serials.
func (l *Log) names() []string {
	names := slices.DeleteFunc(l.List(l.prefix), func(name string) bool {
		return !isSerial(name[len(l.prefix):])
	})
	// As texts, since a name's number may be above all serials: without noughts ahead the longer one is the greater.
	slices.SortFunc(names, func(a, b string) int {
		return cmp.Or(cmp.Compare(len(a), len(b)), strings.Compare(a, b))
	})
	return names
}

func isSerial(text string) bool {
	return text != "" && text[0] != '0' && strings.Trim(text, "0123456789") == ""
}

// look answers what a file's bytes say it is (the serial 0 without a head), and the place behind its last whole record.
func look(b []byte) (file, int) {
	records, whole := parity.OpenAll(b)
	if len(records) == 0 {
		return file{}, whole
	}
	in := pack.Read(records[0])
	serial, from := in.Num(), in.Num()
	if in.Close() != api.OK {
		return file{}, whole
	}
	return file{Span{from, from + uint64(len(records)-1)}, serial}, whole
}

// joins tells whether a file of this name stands behind those that were found.
func (l *Log) joins(f file, name string) bool {
	if l.name(f.serial) != name {
		return false
	}
	return len(l.files) == 0 || f.serial == l.last().serial+1 && f.From == l.Next()
}

// removeFromBack removes the last one first, so that what a crash leaves has no gap.
func (l *Log) removeFromBack(names []string) api.Errno {
	for _, name := range slices.Backward(names) {
		if e := l.Remove(name); e != api.OK {
			return e
		}
	}
	return api.OK
}
