package sweep_test

import (
	"fmt"
	"testing"

	"groyne/api"
	"groyne/drive"
	"groyne/sweep"
)

func TestAway(t *testing.T) {
	names := []string{"a", "s", "s/", "s/a", "s/b/c", "t"}
	for prefix, left := range map[string]string{"s/": "[a s t]", "": "[]", "x": "[a s s/ s/a s/b/c t]"} {
		d := drive.New(100)
		for _, name := range names {
			d.Append(name, []byte("b"))
		}
		if e := sweep.Away(d, prefix); e != api.OK || d.Queue() != 0 {
			t.Errorf("Away(%q): %d, queue %d", prefix, e, d.Queue())
		}
		d.Crash(0)
		if got := fmt.Sprint(d.List("")); got != left {
			t.Errorf("Away(%q) leaves %s", prefix, got)
		}
	}
}

func TestAwayIsCut(t *testing.T) {
	for n, want := range []api.Errno{api.ErrDead, api.ErrDead, api.ErrDead, api.OK} {
		d := drive.New(100)
		d.Append("a", nil)
		d.Append("b", nil)
		d.Flush()
		d.Arm(n)
		if e := sweep.Away(d, ""); e != want {
			t.Errorf("cut at %d: %d", n, e)
		}
	}
}
