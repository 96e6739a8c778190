package branch

import (
	"groyne/api"
	"groyne/pack"
)

// Reply: an outcome as bytes.
func (o Outcome) Reply() []byte {
	var w pack.Writer
	w.Num(uint64(o.Err), uint64(o.At), uint64(len(o.Rows)))
	for _, row := range o.Rows {
		w.Num(uint64(len(row)))
		for _, p := range row {
			w.Text(p.Key, p.Value)
		}
	}
	return w.Bytes()
}

// ToReply: the outcome of bytes.
func ToReply(b []byte) (Outcome, api.Errno) {
	var o Outcome
	r := pack.Read(b)
	o.Err = api.Errno(r.Num())
	o.At = int(r.Num())
	for range r.Num() {
		row := takeRow(r)
		// A count may be far above what the bytes can hold, so the first error must end the loop.
		if r.Err() != api.OK {
			break
		}
		o.Rows = append(o.Rows, row)
	}
	if e := r.Close(); e != api.OK {
		return Outcome{}, e
	}
	return o, api.OK
}

func takeRow(r *pack.Reader) []api.Pair {
	var row []api.Pair
	for range r.Num() {
		key, value := r.Text(), r.Text()
		if r.Err() != api.OK {
			return nil
		}
		row = append(row, api.Pair{Key: key, Value: value})
	}
	return row
}
