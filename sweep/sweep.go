// Package sweep takes back what was laid behind a prefix of a drive, for the layers that lay something there and have to give up.
package sweep

import (
	"groyne/api"
	"groyne/drive"
)

// Away: all files whose names begin with the prefix are removed, and that is flushed. The errors of its deeds.
func Away(d *drive.Drive, prefix string) api.Errno {
	for _, name := range d.List(prefix) {
		if e := d.Remove(name); e != api.OK {
			return e
		}
	}
	return d.Flush()
}
