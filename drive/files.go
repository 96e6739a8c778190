package drive

// files is one state of a drive: its files by their names, and how many bytes they have in all.
type files struct {
	byName map[string][]byte
	used   int
}

func (f *files) write(name string, at int, b []byte) {
	if f.byName == nil { // the zero Drive has no map yet
		f.byName = map[string][]byte{}
	}
	file := f.byName[name]
	f.used -= len(file)
	over := copy(file[at:], b)
	file = append(file, b[over:]...)
	f.used += len(file)
	f.byName[name] = file
}

func (f *files) trim(name string, size int) {
	file := f.byName[name]
	f.used -= len(file) - size
	f.byName[name] = file[:size]
}

func (f *files) rename(from, to string) {
	if from == to {
		return
	}
	f.used -= len(f.byName[to])
	f.byName[to] = f.byName[from]
	delete(f.byName, from)
}

func (f *files) remove(name string) {
	f.used -= len(f.byName[name])
	delete(f.byName, name)
}

// twin shares no memory with f, so that either may be written over.
func (f *files) twin() files {
	t := files{byName: make(map[string][]byte, len(f.byName)), used: f.used}
	for name, file := range f.byName {
		t.byName[name] = copied(file)
	}
	return t
}

func copied(b []byte) []byte {
	c := make([]byte, len(b))
	copy(c, b)
	return c
}
