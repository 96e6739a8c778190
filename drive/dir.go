package drive

import (
	"slices"
	"strings"

	"groyne/api"
)

// Dir is a drive, seen behind a prefix.
type Dir struct {
	*Drive
	Prefix string
}

// Path answers the prefix and the parts, joined.
func (d Dir) Path(parts ...string) string {
	return d.Prefix + strings.Join(parts, "")
}

// Names answers the names that begin with the path of the parts, without the prefix, rising.
func (d Dir) Names(parts ...string) []string {
	names := d.List(d.Path(parts...))
	for i, name := range names {
		names[i] = name[len(d.Prefix):]
	}
	return names
}

// Replace gives a file just these bytes, safely and all at once.
func Replace(d *Drive, name string, b []byte) api.Errno {
	other := name + "~"
	// One that a crash left is written over and then trimmed, not removed ahead: so nothing has changed if there is no room.
	longer := d.Size(other) > len(b)
	if e := d.Write(other, 0, b); e != api.OK {
		return e
	}
	if longer {
		if e := d.Trim(other, len(b)); e != api.OK {
			return e
		}
	}
	// No flush is needed ahead of this: a crash that keeps it keeps all that stands ahead of it in the queue.
	if e := d.Rename(other, name); e != api.OK {
		return e
	}
	return d.Flush()
}

// Clear removes all files, those of the first names ahead of the others, and flushes that.
func Clear(d *Drive, first ...string) api.Errno {
	early, late := parted(d.List(""), first)
	for _, name := range append(early, late...) {
		if e := d.Remove(name); e != api.OK {
			return e
		}
	}
	return d.Flush()
}

// parted answers the names that are among the first ones, and the others, each in their order.
func parted(names, first []string) (early, late []string) {
	for _, name := range names {
		if slices.Contains(first, name) {
			early = append(early, name)
		} else {
			late = append(late, name)
		}
	}
	return early, late
}
