package drive

// operation is a raw operation that may wait in the queue. None is ever changed, so that drives may share them.
type operation interface {
	units() int
	// do brings files on by the first units of the operation, of which there is at least one.
	do(f *files, units int)
}

type write struct {
	name string
	at   int
	b    []byte
}

func (w write) units() int { return 1 + len(w.b) }

func (w write) do(f *files, units int) { f.write(w.name, w.at, w.b[:units-1]) }

type trim struct {
	name string
	size int
}

func (trim) units() int { return 1 }

func (t trim) do(f *files, _ int) { f.trim(t.name, t.size) }

type rename struct{ from, to string }

func (rename) units() int { return 1 }

func (r rename) do(f *files, _ int) { f.rename(r.from, r.to) }

type remove struct{ name string }

func (remove) units() int { return 1 }

func (r remove) do(f *files, _ int) { f.remove(r.name) }

// replay brings files on by the first units of a queue.
func replay(f *files, queue []operation, units int) {
	for _, op := range queue {
		if units == 0 {
			return
		}
		done := min(units, op.units())
		op.do(f, done)
		units -= done
	}
}

func allUnits(queue []operation) int {
	n := 0
	for _, op := range queue {
		n += op.units()
	}
	return n
}
