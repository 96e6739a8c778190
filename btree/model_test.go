package btree_test

import (
	"bytes"
	"maps"
	"math/rand"
	"slices"
	"testing"

	"groyne/api"
	"groyne/btree"
	"groyne/drive"
	"groyne/leaf"
	"groyne/pages"
)

// run is a tree beside a map.
type run struct {
	t    *testing.T
	rnd  *rand.Rand
	x    *btree.Tree
	keys map[string]string
	long int // how long keys and values may be
	wide int // how many bytes keys are made of
}

func (r *run) key() []byte {
	key := make([]byte, r.rnd.Intn(min(r.long, api.MaxKey)+1))
	for i := range key {
		key[i] = byte(r.rnd.Intn(r.wide))
		if i > 3 {
			key[i] = 'k' // keys that differ late, too
		}
	}
	if len(key) > 5 {
		key[len(key)-1] = byte(r.rnd.Intn(r.wide))
	}
	return key
}

// some is a key that the tree has, if it has one.
func (r *run) some() []byte {
	if len(r.keys) == 0 {
		return r.key()
	}
	list := slices.Sorted(maps.Keys(r.keys))
	return []byte(list[r.rnd.Intn(len(list))])
}

func (r *run) write(goes int) api.Write {
	if r.rnd.Intn(10) < goes {
		if r.rnd.Intn(8) == 0 {
			return api.Write{Key: r.key(), Gone: true}
		}
		return api.Write{Key: r.some(), Gone: true, Value: make([]byte, r.rnd.Intn(300))}
	}
	w := api.Write{Key: r.key(), Value: make([]byte, r.rnd.Intn(min(2*r.long, api.MaxValue)+1))}
	if r.rnd.Intn(4) == 0 {
		w.Key = r.some()
	}
	r.rnd.Read(w.Value)
	return w
}

func (r *run) apply(goes int) {
	var writes []api.Write
	for range r.rnd.Intn(4) {
		w := r.write(goes)
		writes = append(writes, w)
		if w.Gone {
			delete(r.keys, string(w.Key))
		} else {
			r.keys[string(w.Key)] = string(w.Value)
		}
	}
	if e := r.x.Apply(writes...); e != api.OK {
		r.t.Fatalf("Apply: %v", e)
	}
}

// look holds the tree against the map.
func (r *run) look() {
	sound(r.t, r.x)
	if n, e := r.x.Len(); n != len(r.keys) || e != api.OK {
		r.t.Fatalf("Len = %d, %v, want %d", n, e, len(r.keys))
	}
	for _, key := range [][]byte{r.some(), r.key()} {
		value, there := r.keys[string(key)]
		if v, ok, e := r.x.Get(key); ok != there || e != api.OK || string(v) != value {
			r.t.Fatalf("Get(%q) = %q, %v, %v, want %q, %v", key, v, ok, e, value, there)
		}
	}
	from, to, most := r.key(), r.key(), r.rnd.Intn(12)-1
	switch r.rnd.Intn(4) {
	case 0:
		from = nil
	case 1:
		to = r.some()
	case 2:
		from, to = nil, nil
	}
	r.scan(from, to, most)
}

func (r *run) scan(from, to []byte, most int) {
	var list []api.Pair
	for _, key := range slices.Sorted(maps.Keys(r.keys)) {
		above := bytes.Compare([]byte(key), from) >= 0
		below := len(to) == 0 || bytes.Compare([]byte(key), to) < 0
		if above && below && (most < 1 || len(list) < most) {
			list = append(list, api.Pair{Key: []byte(key), Value: []byte(r.keys[key])})
		}
	}
	pairs, e := r.x.Scan(from, to, most)
	same := func(a, b api.Pair) bool { return bytes.Equal(a.Key, b.Key) && bytes.Equal(a.Value, b.Value) }
	if e != api.OK || !slices.EqualFunc(pairs, list, same) {
		r.t.Fatalf("Scan(%q, %q, %d) = %q, %v, want %q", from, to, most, told(pairs), e, told(list))
	}
}

func TestScripts(t *testing.T) { // P9.1, P9.2
	deepest := 0
	for seed := range int64(60) {
		rnd := rand.New(rand.NewSource(seed))
		r := &run{t: t, rnd: rnd, x: empty(t, 1+rnd.Intn(9)), keys: map[string]string{}, long: 1 + rnd.Intn(64), wide: 1 + rnd.Intn(256)}
		if seed%3 == 0 {
			r.long, r.wide = 64, 200
		}
		for phase := range 6 {
			goes := []int{2, 9, 5}[phase%3]
			for range 100 {
				r.apply(goes)
				if rnd.Intn(3) == 0 {
					r.look()
				}
			}
			r.look()
			deepest = max(deepest, depth(t, r.x))
		}
	}
	if deepest < 3 {
		t.Errorf("no tree was deeper than %d", deepest)
	}
}

func TestSavesAndCrashes(t *testing.T) { // P9.3
	for seed := range int64(60) {
		rnd := rand.New(rand.NewSource(seed))
		d := drive.New(1 << 24)
		p := pool(t, d, 1+rnd.Intn(5))
		x, _ := btree.New(p)
		r := &run{t: t, rnd: rnd, x: x, keys: map[string]string{}, long: 40, wide: 9}
		for range 12 {
			for range rnd.Intn(30) {
				r.apply(4)
			}
			if e := p.Save([]byte{byte(r.x.Root()), byte(r.x.Root() >> 8)}); e != api.OK {
				t.Fatal(e)
			}
			saved := maps.Clone(r.keys)
			for range rnd.Intn(30) {
				r.apply(4)
			}
			r.dying(d)
			d.Crash(rnd.Intn(1 << 20))
			again, note, e := pages.Open(d, prefix, 1+rnd.Intn(5))
			if e != api.OK {
				t.Fatal(e)
			}
			p = again
			r.keys = saved
			if r.x, e = btree.At(p, int(note[0])|int(note[1])<<8); e != api.OK {
				t.Fatal(e)
			}
			r.look()
			r.scan(nil, nil, 0)
		}
	}
}

// dying writes till the drive is dead, which each call tells from then on.
func (r *run) dying(d *drive.Drive) {
	d.Arm(r.rnd.Intn(5))
	for i := 0; !d.Dead(); i++ {
		if i > 1000 {
			d.Flush() // all may be at hand
		}
		if e := r.x.Apply(api.Write{Key: r.key(), Value: make([]byte, 100)}); (e != api.OK) != d.Dead() || e != api.OK && e != api.ErrDead {
			r.t.Fatalf("Apply on a drive that is armed: %v", e)
		}
	}
	_, _, get := r.x.Get(nil)
	_, scan := r.x.Scan(nil, nil, 0)
	_, length := r.x.Len()
	_, deep := r.x.Depth()
	_, list := r.x.Pages()
	for i, e := range []api.Errno{get, scan, length, deep, list, r.x.Check(), r.x.Apply(api.Write{})} {
		if e != api.ErrDead {
			r.t.Fatalf("the call %d on a dead drive: %v", i, e)
		}
	}
	if e := r.x.Apply(); e != api.OK {
		r.t.Fatalf("Apply of nothing: %v", e)
	}
}

// grown is a tree in form over the keys, with groups of any size: forks with one kid, and leaves with one key, too.
func grown(r *run, p *pages.Pool) {
	type top struct {
		id    int
		least []byte
	}
	var row []top
	keys := slices.Sorted(maps.Keys(r.keys))
	for at := 0; at < len(keys); {
		n := leaf.Node{Leaf: true}
		for _, key := range keys[at:min(at+1+r.rnd.Intn(2), len(keys))] {
			n.Keys = append(n.Keys, []byte(key))
			n.Values = append(n.Values, []byte(r.keys[key]))
		}
		at += len(n.Keys)
		row = append(row, top{page(r.t, p, n), n.Keys[0]})
	}
	for extra := r.rnd.Intn(2); len(row) > 1 || extra > 0; {
		if len(row) == 1 {
			extra--
		}
		var above []top
		for at := 0; at < len(row); {
			var n leaf.Node
			for i, kid := range row[at:min(at+1+r.rnd.Intn(4), len(row))] {
				if i > 0 {
					n.Keys = append(n.Keys, kid.least)
				}
				n.Kids = append(n.Kids, kid.id)
			}
			above = append(above, top{page(r.t, p, n), row[at].least})
			at += len(n.Kids)
		}
		row = above
	}
	r.x, _ = btree.At(p, row[0].id)
}

func TestThinTrees(t *testing.T) { // P9.2
	for seed := range int64(150) {
		rnd := rand.New(rand.NewSource(seed))
		r := &run{t: t, rnd: rnd, keys: map[string]string{}, long: 64, wide: 200}
		for range 1 + rnd.Intn(60) {
			r.keys[string(r.key())] = "v"
		}
		grown(r, pool(t, drive.New(1<<24), 20))
		r.look()
		for range 60 {
			r.apply(7)
			r.look()
		}
	}
}
