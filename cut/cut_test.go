package cut_test

import (
	"fmt"
	"math"
	"math/rand"
	"slices"
	"strings"
	"testing"

	"groyne/api"
	"groyne/cut"
	"groyne/vault"
)

func shelf() vault.Shelf { return vault.Shelf{Vault: vault.New(), Prefix: "c/"} }

func claims(t *testing.T, s vault.Shelf, from cut.Origin, want uint64) {
	t.Helper()
	if inc, e := cut.Claim(s, from); inc != want || e != api.OK {
		t.Errorf("Claim(%v) = %d, %d, want %d", from, inc, e, want)
	}
}

func paths(t *testing.T, s vault.Shelf, inc uint64, want ...uint64) {
	t.Helper()
	if got := cut.Path(s, inc); !slices.Equal(got, want) {
		t.Errorf("Path(%d) = %v, want %v", inc, got, want)
	}
}

func TestExample(t *testing.T) { // P16.1, P16.2
	s := shelf()
	claims(t, s, cut.Origin{}, 1)
	claims(t, s, cut.Origin{Parent: 1, Id: 7, Name: "b"}, 2)
	paths(t, s, 2, 2, 1)
	enters(t, s, 1, barrier(7, "b", 3, 4, 9), api.OK)
	enters(t, s, 1, barrier(7, "b", 3, 4, 9), api.OK)
	enters(t, s, 1, barrier(8, "b"), api.ErrThere)
	enters(t, s, 2, barrier(8, "b"), api.OK)
}

func TestClaim(t *testing.T) { // P16.1
	s := shelf()
	if cut.Newest(s) != 0 {
		t.Errorf("Newest of none is %d", cut.Newest(s))
	}
	froms := []cut.Origin{{}, {Parent: 1, Id: 7, Name: "b"}, {Parent: 1, Id: 7, Name: "b"}, {Parent: math.MaxUint64, Id: math.MaxUint64, Name: "\xff\x00 "}, {Name: strings.Repeat("n", 1000)}}
	for i, from := range froms {
		inc := uint64(i + 1)
		if o, there := cut.Where(s, inc); there || o != (cut.Origin{}) {
			t.Errorf("Where(%d) = %v, %v ahead of its claim", inc, o, there)
		}
		claims(t, s, from, inc)
		if cut.Newest(s) != inc {
			t.Errorf("Newest = %d, want %d", cut.Newest(s), inc)
		}
	}
	for i, from := range froms {
		if o, there := cut.Where(s, uint64(i+1)); !there || o != from {
			t.Errorf("Where(%d) = %v, %v", i+1, o, there)
		}
	}
	for _, inc := range []uint64{0, 6, math.MaxUint64} {
		if o, there := cut.Where(s, inc); there || o != (cut.Origin{}) {
			t.Errorf("Where(%d) = %v, %v", inc, o, there)
		}
	}
	other := s.Sub("x/")
	if cut.Newest(other) != 0 {
		t.Error("another shelf has the same incarnations")
	}
	claims(t, other, cut.Origin{}, 1)
	// What isn't claimed isn't counted.
	cut.Open(s, 9)
	enters(t, s, 10, barrier(11, "b"), api.OK)
	claims(t, s, cut.Origin{}, 6)
}

// claimed is a shelf on which just this number is claimed, by things that another shelf has for 1.
func claimed(t *testing.T, inc uint64) vault.Shelf {
	t.Helper()
	first, s := shelf(), shelf()
	claims(t, first, cut.Origin{Parent: 1}, 1)
	for _, name := range first.List("") {
		b, _ := first.Get(name)
		s.Put(strings.Replace(name, vault.Number(1), vault.Number(inc), 1), b)
	}
	return s
}

func TestNoNumberLeft(t *testing.T) { // P16.1
	s := claimed(t, math.MaxUint64-1)
	claims(t, s, cut.Origin{Id: 5}, math.MaxUint64)
	ahead := s.Count()
	if inc, e := cut.Claim(s, cut.Origin{}); inc != 0 || e != api.ErrSize {
		t.Errorf("Claim = %d, %d", inc, e)
	}
	if o, there := cut.Where(s, math.MaxUint64); cut.Newest(s) != math.MaxUint64 || !there || o.Id != 5 || s.Count() != ahead {
		t.Errorf("Where = %v, %v", o, there)
	}
}

func TestNumbersArentClaimedTwice(t *testing.T) { // P16.1
	s := claimed(t, 300)
	claims(t, s, cut.Origin{}, 301)
	name := s.Names("")[1]
	b, _ := s.Fetch(name)
	s.Lose(s.Path(name))
	s.Store(append(b, 7), name) // isn't so, but it was claimed
	if _, there := cut.Where(s, 301); there || cut.Newest(s) != 301 {
		t.Errorf("Newest = %d, there %v", cut.Newest(s), there)
	}
	claims(t, s, cut.Origin{}, 302)
	for _, behind := range []string{"", "x", "00000000000009990", "000000000000999", "000000000000FFFF"} {
		s.Store(b, strings.TrimSuffix(name, vault.Number(301)), behind)
	}
	claims(t, s, cut.Origin{}, 303)
}

func TestPath(t *testing.T) { // P16.1
	s := shelf()
	for _, parent := range []uint64{0, 1, 2, 1, 4, 9, 7, 0, 8, 3} {
		cut.Claim(s, cut.Origin{Parent: parent})
	}
	paths(t, s, 1, 1)
	paths(t, s, 2, 2, 1)
	paths(t, s, 3, 3, 2, 1)
	paths(t, s, 5, 5, 4, 1)
	paths(t, s, 10, 10, 3, 2, 1)
	paths(t, s, 9, 9, 8)
	paths(t, s, 6, 6) // its parent is above it
	paths(t, s, 7, 7) // its own
	paths(t, s, 0)
	paths(t, s, 11)
	paths(t, s, math.MaxUint64)
	for _, name := range s.List("") {
		if strings.HasSuffix(name, vault.Number(2)) {
			s.Lose(name)
		}
	}
	paths(t, s, 10, 10, 3)
	paths(t, s, 2)
}

func TestOpened(t *testing.T) { // P16.1
	s := shelf()
	claims(t, s, cut.Origin{}, 1)
	claims(t, s, cut.Origin{}, 2)
	for _, inc := range []uint64{0, 2, math.MaxUint64} {
		if cut.Opened(s, inc) {
			t.Errorf("%d is open", inc)
		}
		for range 2 {
			if e := cut.Open(s, inc); e != api.OK || !cut.Opened(s, inc) {
				t.Errorf("Open(%d): %d", inc, e)
			}
		}
	}
	if cut.Opened(s, 1) || cut.Opened(s, 3) || cut.Opened(s.Sub("x"), 2) || cut.Newest(s) != 2 {
		t.Error("another is open")
	}
}

func barrier(id uint64, name string, at ...uint64) cut.Barrier {
	return cut.Barrier{Id: id, Name: name, At: at}
}

func enters(t *testing.T, s vault.Shelf, inc uint64, b cut.Barrier, want api.Errno) {
	t.Helper()
	ahead := fmt.Sprint(cut.Barriers(s, inc))
	if e := cut.Enter(s, inc, b); e != want {
		t.Errorf("Enter(%d, %v) = %d, want %d", inc, b, e, want)
	}
	if now := fmt.Sprint(cut.Barriers(s, inc)); want != api.OK && now != ahead {
		t.Errorf("Enter(%d, %v): the catalogue has %s, not %s", inc, b, now, ahead)
	}
}

func wantBarriers(t *testing.T, s vault.Shelf, inc uint64, want string, patterns ...string) {
	t.Helper()
	if got := fmt.Sprint(cut.Barriers(s, inc, patterns...)); got != want {
		t.Errorf("Barriers(%d, %q) = %s, want %s", inc, patterns, got, want)
	}
}

func TestEnter(t *testing.T) { // P16.2
	s := shelf()
	wantBarriers(t, s, 1, "[]")
	enters(t, s, 1, barrier(7, "b", 3, 4, 300), api.OK)
	enters(t, s, 1, barrier(7, "b", 3, 4, 300), api.OK)
	for _, other := range []cut.Barrier{barrier(7, "b"), barrier(7, "b", 3, 4), barrier(7, "b", 3, 4, 301), barrier(7, "b", 3, 4, 300, 0), barrier(7, "c", 3, 4, 300), barrier(8, "b", 3, 4, 300), barrier(6, "b")} {
		enters(t, s, 1, other, api.ErrThere)
	}
	for _, name := range []string{"", "B", "9", "b_", "-b", "b*", strings.Repeat("b", 17), "b\x00"} {
		enters(t, s, 1, barrier(9, name), api.ErrForm)
		enters(t, s, 1, barrier(7, name, 3, 4, 300), api.ErrForm) // the least error
	}
	enters(t, s, 1, barrier(0, "a"), api.OK)
	enters(t, s, 1, barrier(math.MaxUint64, strings.Repeat("z", 16), 0, math.MaxUint64), api.OK)
	enters(t, s, 1, barrier(9, "b-9"), api.OK)
	enters(t, s, 1, cut.Barrier{Id: 9, Name: "b-9", At: []uint64{}}, api.OK)
	enters(t, s, 2, barrier(7, "c"), api.OK)
	enters(t, s, 2, barrier(8, "b"), api.OK)
	enters(t, s, 0, barrier(8, "c"), api.OK)
	enters(t, s, math.MaxUint64, barrier(8, "b", 1), api.OK)
	wantBarriers(t, s, 1, "[{0 a []} {7 b [3 4 300]} {9 b-9 []} {18446744073709551615 zzzzzzzzzzzzzzzz [0 18446744073709551615]}]")
	wantBarriers(t, s, 2, "[{7 c []} {8 b []}]")
	wantBarriers(t, s, 0, "[{8 c []}]")
	wantBarriers(t, s, math.MaxUint64, "[{8 b [1]}]")
	wantBarriers(t, s, 3, "[]")
	wantBarriers(t, s.Sub("x/"), 1, "[]")
}

func TestBarriers(t *testing.T) { // P16.2
	s := shelf()
	for id, name := range []string{"nightly-10", "b", "nightly-9", "a1", "a22"} {
		enters(t, s, 4, barrier(uint64(9-id), name), api.OK)
	}
	wantBarriers(t, s, 4, "[{5 a22 []} {6 a1 []} {7 nightly-9 []} {8 b []} {9 nightly-10 []}]")
	wantBarriers(t, s, 4, "[{7 nightly-9 []} {9 nightly-10 []}]", "night*-*")
	wantBarriers(t, s, 4, "[{6 a1 []} {8 b []}]", "b", "a?")
	wantBarriers(t, s, 4, "[{8 b []}]", "b", "b", "?")
	wantBarriers(t, s, 4, "[]", "", "B", "nightly")
	wantBarriers(t, s, 4, "[{5 a22 []} {6 a1 []} {7 nightly-9 []} {8 b []} {9 nightly-10 []}]", "z", "*")
}

func TestLookup(t *testing.T) { // P16.2
	s := shelf()
	enters(t, s, 1, barrier(8, "b", 1, 2), api.OK)
	enters(t, s, 1, barrier(7, "bb", 3), api.OK)
	enters(t, s, 2, barrier(9, "c"), api.OK)
	for name, want := range map[string]string{"b": "{8 b [1 2]}", "bb": "{7 bb [3]}"} {
		if b, e := cut.Lookup(s, 1, name); fmt.Sprint(b) != want || e != api.OK {
			t.Errorf("Lookup(%s) = %v, %d", name, b, e)
		}
	}
	for _, name := range []string{"c", "", "b*", "?", "B", "bbb"} {
		if b, e := cut.Lookup(s, 1, name); fmt.Sprint(b) != "{0  []}" || e != api.ErrNone {
			t.Errorf("Lookup(%q) = %v, %d", name, b, e)
		}
	}
	if _, e := cut.Lookup(s, 3, "b"); e != api.ErrNone {
		t.Errorf("Lookup of another incarnation: %d", e)
	}
}

func TestForeignThings(t *testing.T) { // P16.2
	s := shelf()
	enters(t, s, 1, barrier(8, "b", 1, 2), api.OK)
	name := s.Names("")[0]
	good, _ := s.Fetch(name)
	at := strings.TrimSuffix(name, vault.Number(8))
	for id, b := range [][]byte{nil, {1}, {2, 'b'}, {1, 'B'}, append(slices.Clone(good), 249), append(slices.Clone(good), 248, 1), good} {
		s.Store(b, at, vault.Number(uint64(20 + id))[:16-id/6])
	}
	s.Store(good, at, vault.Number(30), "x")
	s.Store(good, at)
	wantBarriers(t, s, 1, "[{8 b [1 2]}]")
	enters(t, s, 1, barrier(20, "c"), api.ErrThere)
	enters(t, s, 1, barrier(9, "c"), api.OK)
}

func TestMemory(t *testing.T) { // P16.3
	s := shelf()
	at := append(make([]uint64, 0, 9), 1, 2)
	b := cut.Barrier{Id: 7, Name: "b", At: at}
	enters(t, s, 1, b, api.OK)
	if fmt.Sprint(at[:9]) != "[1 2 0 0 0 0 0 0 0]" {
		t.Errorf("Enter has changed %v", at[:9])
	}
	clear(at)
	enters(t, s, 1, barrier(8, "c", 3, 4), api.OK)
	list := cut.Barriers(s, 1)
	for _, b := range list {
		room := b.At[:cap(b.At)]
		for i := range room {
			room[i] = 99
		}
		if b.At[0] != 99 || list[1].At[0] == 99 && b.Id == 7 {
			t.Errorf("the answers are %v", list)
		}
	}
	clear(list)
	if b, _ := cut.Lookup(s, 1, "b"); fmt.Sprint(b) != "{7 b [1 2]}" {
		t.Errorf("Lookup = %v", b)
	}
	cut.Claim(s, cut.Origin{})
	clear(cut.Path(s, 1))
	paths(t, s, 1, 1)
	patterns := []string{"b", "c"}
	cut.Barriers(s, 1, patterns...)
	if fmt.Sprint(patterns) != "[b c]" {
		t.Errorf("Barriers has changed %v", patterns)
	}
}

// catalogue is what a shelf says, told plainly.
type catalogue struct {
	froms    []cut.Origin
	open     map[uint64]int
	barriers map[uint64][]cut.Barrier
}

// enter answers what Enter says.
func (c *catalogue) enter(inc uint64, b cut.Barrier) api.Errno {
	for _, other := range c.barriers[inc] {
		switch {
		case fmt.Sprint(other) == fmt.Sprint(b):
			return api.OK
		case other.Id == b.Id || other.Name == b.Name:
			return api.ErrThere
		}
	}
	c.barriers[inc] = append(c.barriers[inc], b)
	slices.SortFunc(c.barriers[inc], func(x, y cut.Barrier) int { return int(x.Id) - int(y.Id) })
	return api.OK
}

func (c *catalogue) path(inc uint64) []uint64 {
	var path []uint64
	for last := uint64(math.MaxUint64); inc > 0 && inc < last && inc <= uint64(len(c.froms)); {
		path = append(path, inc)
		last, inc = inc, c.froms[inc-1].Parent
	}
	return path
}

func TestScripts(t *testing.T) { // P16.1, P16.2
	for seed := range int64(40) {
		rnd := rand.New(rand.NewSource(seed))
		s, c := shelf(), &catalogue{open: map[uint64]int{}, barriers: map[uint64][]cut.Barrier{}}
		for range 120 {
			inc := uint64(rnd.Intn(6))
			switch rnd.Intn(5) {
			case 0:
				from := cut.Origin{Parent: uint64(rnd.Intn(len(c.froms) + 3)), Id: rnd.Uint64(), Name: fmt.Sprint(rnd.Intn(9))}
				c.froms = append(c.froms, from)
				claims(t, s, from, uint64(len(c.froms)))
			case 1:
				cut.Open(s, inc)
				c.open[inc]++
			default:
				b := cut.Barrier{Id: uint64(rnd.Intn(20)), Name: string(rune('a' + rnd.Intn(20))), At: make([]uint64, rnd.Intn(3))}
				if e, want := cut.Enter(s, inc, b), c.enter(inc, b); e != want {
					t.Fatalf("Enter(%d, %v) = %d, want %d", inc, b, e, want)
				}
			}
			wantBarriers(t, s, inc, fmt.Sprint(c.barriers[inc]))
			if cut.Opened(s, inc) != (c.open[inc] > 0) || cut.Newest(s) != uint64(len(c.froms)) {
				t.Fatalf("Opened(%d) = %v, Newest = %d", inc, cut.Opened(s, inc), cut.Newest(s))
			}
			at := uint64(rnd.Intn(len(c.froms) + 2))
			paths(t, s, at, c.path(at)...)
		}
	}
}
