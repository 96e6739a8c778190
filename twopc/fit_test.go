package twopc_test

import (
	"strings"
	"testing"

	"groyne/api"
	"groyne/branch"
	"groyne/hlog"
	"groyne/shard"
	"groyne/twopc"
)

// scene is a coordinator somewhere on its way.
type scene struct {
	c    *twopc.Coord
	from int // the shard whose answer is wanting; below 0: none
	kind int // and of which kind
}

// answered has shards answer OK to what they were asked.
func answered(c *twopc.Coord, kind int, shards ...int) *twopc.Coord {
	for _, at := range shards {
		c.Answer(at, ok(kind))
	}
	return c
}

func scenes() map[string]scene {
	readied := func() *twopc.Coord { return answered(begun(), shard.Work, 0, 1, 2) }
	gated := func() *twopc.Coord { return answered(readied(), shard.Ready, 0, 1, 2) }
	decided := func() *twopc.Coord { c := gated(); c.Open(); return c }
	finished := func() *twopc.Coord { c := decided(); c.Logged(); return c }
	ended := func() *twopc.Coord { return answered(finished(), shard.Finish, 0, 1, 2) }
	inquired := twopc.Inquire(x, 3, 3)
	inquired.Begin()
	over := ended()
	over.Logged()
	return map[string]scene{
		"fresh":           {twopc.New(x, splits("h", "p"), []api.Op{scan("a", "", 3)}, 3), -1, 0},
		"fresh, resumed":  {twopc.Resume(x, hlog.Decision{Shards: []int{0, 1, 2}}), -1, 0},
		"fresh, inquires": {twopc.Inquire(x, 3, 3), -1, 0},
		"works":           {answered(begun(), shard.Work, 0, 1), 2, shard.Work},
		"is ready":        {answered(readied(), shard.Ready, 0, 1), 2, shard.Ready},
		"wants the gate":  {gated(), -1, 0},
		"decides":         {decided(), -1, 0},
		"finishes":        {answered(finished(), shard.Finish, 0, 1), 2, shard.Finish},
		"ends":            {ended(), -1, 0},
		"is over":         {over, -1, 0},
		"of one shard":    {alone(), 1, shard.Single},
		"is committed":    {answered(alone(), shard.Single, 1), -1, 0},
		"inquires":        {answered(inquired, shard.Settle, 0, 1), 2, shard.Settle},
	}
}

// TestWhatDoesntFit has a coordinator in each phase take every answer that it doesn't wait for.
func TestWhatDoesntFit(t *testing.T) { // P19.1
	others := []api.Txn{x, {}, {Boot: 8, Session: 8, Seq: 9}, {Boot: 7, Session: 9, Seq: 9}, {Boot: 7, Session: 8, Seq: 8}}
	for what, s := range scenes() {
		want := look(s.c)
		for at := -1; at < 4; at++ {
			for kind := -1; kind <= shard.Copy+1; kind++ {
				for _, y := range others {
					if at == s.from && kind == s.kind && y == x {
						continue
					}
					for _, e := range []api.Errno{api.OK, api.ErrGone} {
						a := shard.Answer{Kind: kind, Txn: y, Err: e, Commit: true, Reply: []byte("q"), Out: branch.Outcome{Err: e}}
						sends(t, what, s.c.Answer(at, a))
					}
				}
			}
		}
		says(t, what, s.c, want)
	}
}

// TestCallsThatDontFit has it take everything of the head that it doesn't want.
func TestCallsThatDontFit(t *testing.T) { // P19.1
	for what, s := range scenes() {
		want := look(s.c)
		if !strings.HasPrefix(what, "fresh") {
			sends(t, what+": Begin", s.c.Begin())
		}
		if want.wants != twopc.Gate {
			sends(t, what+": Open", s.c.Open())
		}
		if want.wants != twopc.Decide && want.wants != twopc.End {
			sends(t, what+": Logged", s.c.Logged())
		}
		if want.wants != twopc.Nothing || want.over {
			ticks(s.c, 9)
		}
		says(t, what, s.c, want)
	}
}
