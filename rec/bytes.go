package rec

import (
	"groyne/api"
	"groyne/pack"
)

// The letters of the fields.
const (
	txnField    = 't'
	writesField = 'w'
	rangesField = 'r'
	commitField = 'c'
	shardsField = 's'
	replyField  = 'a'
	idField     = 'i'
	nameField   = 'n'
)

// fields answers which fields a kind uses, a letter each, in the order in which they are written; of a kind that is none, none.
func fields(kind int) string {
	switch kind {
	case Prepare:
		return "twr"
	case Commit, Abort, End:
		return "t"
	case One:
		return "twa"
	case Mark, Cut, Done:
		return "in"
	case Decide:
		return "tcsa"
	}
	return ""
}

// Bytes answers the record as bytes.
func (r Rec) Bytes() []byte {
	parts := [][]byte{{byte(r.Kind)}}
	for _, field := range fields(r.Kind) {
		parts = append(parts, r.part(field))
	}
	return pack.Join(parts...)
}

// part answers one field as bytes.
func (r Rec) part(field rune) []byte {
	switch field {
	case txnField:
		return pack.Number(r.Txn.Boot, r.Txn.Session, r.Txn.Seq)
	case writesField:
		var parts [][]byte
		for _, w := range r.Writes {
			parts = append(parts, flag(w.Gone), w.Key, w.Value)
		}
		return pack.Join(parts...)
	case rangesField:
		var parts [][]byte
		for _, x := range r.Ranges {
			parts = append(parts, flag(x.Excl), x.From, x.To)
		}
		return pack.Join(parts...)
	case commitField:
		return flag(r.Commit)
	case shardsField:
		var w pack.Writer
		for _, shard := range r.Shards {
			w.Num(uint64(shard))
		}
		return w.Bytes()
	case replyField:
		return r.Reply
	case idField:
		return pack.Number(r.Id)
	case nameField:
		return []byte(r.Name)
	}
	return nil
}

func flag(is bool) []byte {
	var w pack.Writer
	w.Flag(is)
	return w.Bytes()
}

// Read answers the record of bytes.
func Read(b []byte) (Rec, api.Errno) {
	parts, e := pack.Split(b)
	if e != api.OK {
		return Rec{}, e
	}
	if len(parts) == 0 || len(parts[0]) != 1 {
		return Rec{}, api.ErrForm
	}
	r := Rec{Kind: int(parts[0][0])}
	// Every kind uses something.
	if fields(r.Kind) == "" {
		return Rec{}, api.ErrForm
	}
	parts = parts[1:]
	for _, field := range fields(r.Kind) {
		if len(parts) == 0 {
			return Rec{}, api.ErrForm
		}
		if e := r.take(field, parts[0]); e != api.OK {
			return Rec{}, e
		}
		parts = parts[1:]
	}
	if len(parts) > 0 {
		return Rec{}, api.ErrForm
	}
	return r, api.OK
}

// take gives a field what its part says. The part is the record's own from then on.
func (r *Rec) take(field rune, part []byte) api.Errno {
	switch field {
	case writesField:
		return threes(part, func(gone bool, key, value []byte) {
			r.Writes = append(r.Writes, api.Write{Key: key, Value: value, Gone: gone})
		})
	case rangesField:
		return threes(part, func(excl bool, from, to []byte) {
			r.Ranges = append(r.Ranges, api.Range{From: from, To: to, Excl: excl})
		})
	case replyField:
		r.Reply = part
		return api.OK
	case nameField:
		r.Name = string(part)
		return api.OK
	}
	in := pack.Read(part)
	switch field {
	case txnField:
		r.Txn.Boot = in.Num()
		r.Txn.Session = in.Num()
		r.Txn.Seq = in.Num()
	case commitField:
		r.Commit = in.Flag()
	case shardsField:
		for in.Left() > 0 && in.Err() == api.OK {
			r.Shards = append(r.Shards, int(in.Num()))
		}
	case idField:
		r.Id = in.Num()
	}
	return in.Close()
}

// threes has say take each three parts of a frame: a flag, and two texts that are its own from then on.
func threes(frame []byte, say func(is bool, one, other []byte)) api.Errno {
	parts, e := pack.Split(frame)
	if e != api.OK {
		return e
	}
	if len(parts)%3 != 0 {
		return api.ErrForm
	}
	for ; len(parts) > 0; parts = parts[3:] {
		in := pack.Read(parts[0])
		is := in.Flag()
		if e := in.Close(); e != api.OK {
			return e
		}
		say(is, parts[1], parts[2])
	}
	return api.OK
}
