package hlog

import (
	"math"

	"groyne/api"
	"groyne/drive"
	"groyne/journal"
	"groyne/sweep"
	"groyne/vault"
)

// What the name of a backup begins with; the Number of its Id is behind it.
const backup = "known."

// Base is a backup: up to which index it goes.
type Base struct {
	Id, At uint64
}

// Save: a backup in the vault.
func (l *Log) Save(v vault.Shelf, id uint64) api.Errno {
	return v.Store(l.bytes(), backup, vault.Number(id))
}

// fetch answers what a backup has; false: there is none.
func fetch(v vault.Shelf, id uint64) (facts, bool) {
	b, e := v.Fetch(backup, vault.Number(id))
	if e != api.OK {
		return facts{}, false
	}
	return readFacts(b)
}

// Bases: all backups.
func Bases(v vault.Shelf) []Base {
	var list []Base
	for _, name := range v.Names(backup) {
		id, isNumber := vault.ToNumber(name[len(backup):])
		if !isNumber {
			continue
		}
		if f, there := fetch(v, id); there {
			list = append(list, Base{id, f.next})
		}
	}
	return list
}

// Restore: a log from a backup and records.
func Restore(d *drive.Drive, prefix string, most int, v vault.Shelf, b Base, records ...[]byte) (*Log, api.Errno) {
	start, there := fetch(v, b.Id)
	if !there || start.next != b.At {
		return nil, api.ErrNotArchived
	}
	made, e := build(start, records)
	if e != api.OK {
		return nil, e
	}
	if len(d.List(prefix)) > 0 {
		return nil, api.ErrThere
	}
	if e := lay(made, d, prefix); e != api.OK {
		return nil, e
	}
	return Open(d, prefix, most)
}

// build makes a drive on which nothing lies but such a log: what was known ahead of it, and its records, all in its first file.
func build(start facts, records [][]byte) (*drive.Drive, api.Errno) {
	d := drive.New(math.MaxInt)
	drive.Replace(d, startPart, start.bytes())
	log, e := journal.Begin(d, logPart, math.MaxInt, start.next)
	if e != api.OK {
		return nil, e
	}
	recs, ok := readAll(records)
	if !ok {
		return nil, api.ErrForm
	}
	l := &Log{start, log}
	if _, e := l.Append(recs...); e != api.OK {
		return nil, api.ErrForm
	}
	return d, api.OK
}

// lay puts all that lies on one drive behind a prefix of another one. The log's file comes last, whole: a restore that is cut ahead of that is none.
func lay(made, d *drive.Drive, prefix string) api.Errno {
	for _, name := range made.List("") {
		b, _ := made.Read(name)
		e := drive.Replace(d, prefix+name, b)
		if e == api.OK {
			continue
		}
		if dead := sweep.Away(d, prefix); dead != api.OK {
			return dead
		}
		return e
	}
	return api.OK
}

// startOf answers what was known ahead of the first record of a log.
func startOf(log *journal.Log, prefix string) (facts, api.Errno) {
	b, e := log.Read(prefix + startPart)
	if e == api.ErrNone {
		return noFacts(0), api.OK
	}
	if e != api.OK {
		return facts{}, e
	}
	if len(log.Spans()) == 0 {
		// A restore was cut ahead of its log's file. An empty log begins, to which this would not belong.
		return noFacts(0), sweep.Away(log.Drive, prefix+startPart)
	}
	f, ok := readFacts(b)
	if !ok {
		return facts{}, api.ErrForm
	}
	return f, api.OK
}
