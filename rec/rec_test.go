package rec

import (
	"bytes"
	"math"
	"math/rand"
	"reflect"
	"slices"
	"testing"

	"groyne/api"
	"groyne/pack"
)

func text(s string) []byte { return []byte(s) }

// stuffed has something in every field, whether its kind uses it or not.
func stuffed(kind int) Rec {
	return Rec{
		Kind: kind, Txn: api.Txn{Boot: 1, Session: 248, Seq: math.MaxUint64},
		Writes: []api.Write{{Key: text("k"), Value: text("v")}, {Key: text("kk"), Value: text(""), Gone: true}, {Key: text("k"), Value: text("w"), Gone: true}},
		Ranges: []api.Range{{From: text("a"), To: text("b"), Excl: true}, {From: text("c"), To: text("")}},
		Commit: true, Shards: []int{3, 0, -1, math.MaxInt, math.MinInt, 300}, Reply: text("reply"), Id: 70000, Name: "naïve\xff",
	}
}

// used answers what of a stuffed record its kind uses, by the chapter's table.
func used(kind int) Rec {
	all, r := stuffed(kind), Rec{Kind: kind}
	switch kind {
	case Prepare, Commit, Abort, One, Decide, End:
		r.Txn = all.Txn
	case Mark, Cut, Done:
		r.Id, r.Name = all.Id, all.Name
	}
	switch kind {
	case Prepare:
		r.Writes, r.Ranges = all.Writes, all.Ranges
	case One:
		r.Writes, r.Reply = all.Writes, all.Reply
	case Decide:
		r.Commit, r.Shards, r.Reply = all.Commit, all.Shards, all.Reply
	}
	return r
}

// plain answers r with none wherever a list is empty, as nil and none are the same.
func plain(r Rec) Rec {
	none := func(b []byte) []byte { return append([]byte(nil), b...) }
	r = r.twin()
	for i, w := range r.Writes {
		r.Writes[i].Key, r.Writes[i].Value = none(w.Key), none(w.Value)
	}
	for i, x := range r.Ranges {
		r.Ranges[i].From, r.Ranges[i].To = none(x.From), none(x.To)
	}
	r.Writes, r.Ranges = append([]api.Write(nil), r.Writes...), append([]api.Range(nil), r.Ranges...)
	r.Shards, r.Reply = append([]int(nil), r.Shards...), none(r.Reply)
	return r
}

func alike(a, b Rec) bool { return reflect.DeepEqual(plain(a), plain(b)) }

func TestKinds(t *testing.T) { // P6.1
	if got := []int{Prepare, Commit, Abort, One, Mark, Decide, Cut, Done, End}; !slices.Equal(got, []int{1, 2, 3, 4, 5, 6, 7, 8, 9}) {
		t.Errorf("the kinds are %v", got)
	}
	for kind := 1; kind <= 9; kind++ {
		b := stuffed(kind).Bytes()
		r, e := Read(b)
		if e != api.OK || !alike(r, used(kind)) {
			t.Errorf("kind %d: %+v, %d, not %+v", kind, r, e, used(kind))
		}
		if !bytes.Equal(r.Bytes(), b) {
			t.Errorf("kind %d: back again: %v, not %v", kind, r.Bytes(), b)
		}
		zero, e := Read(Rec{Kind: kind}.Bytes())
		if e != api.OK || !alike(zero, Rec{Kind: kind}) {
			t.Errorf("kind %d, all else zero: %+v, %d", kind, zero, e)
		}
	}
}

func TestForm(t *testing.T) { // P6.1
	txn := []byte{1, 248, 248, 255, 255, 255, 255, 255, 255, 255, 255, 255}
	writes := []byte{9, 1, 0, 1, 'k', 1, 'v', 1, 1, 2, 'k', 'k', 0, 1, 1, 1, 'k', 1, 'w'}
	ranges := []byte{6, 1, 1, 1, 'a', 1, 'b', 1, 0, 1, 'c', 0}
	shards := pack.Number(3, 0, math.MaxUint64, math.MaxInt64, 1<<63, 300)
	id, name := []byte{250, 1, 17, 112}, text("naïve\xff")
	for _, c := range []struct {
		kind  int
		parts [][]byte
	}{
		{Prepare, [][]byte{{1}, txn, writes, ranges}}, {Commit, [][]byte{{2}, txn}}, {Abort, [][]byte{{3}, txn}},
		{One, [][]byte{{4}, txn, writes, text("reply")}}, {Mark, [][]byte{{5}, id, name}},
		{Decide, [][]byte{{6}, txn, {1}, shards, text("reply")}}, {Cut, [][]byte{{7}, id, name}},
		{Done, [][]byte{{8}, id, name}}, {End, [][]byte{{9}, txn}},
		{0, [][]byte{{0}}}, {10, [][]byte{{10}}}, {-1, [][]byte{{255}}}, {258, [][]byte{{2}}}, {-247, [][]byte{{9}}},
		{math.MaxInt, [][]byte{{255}}}, {math.MinInt, [][]byte{{0}}},
	} {
		want := pack.Join(c.parts...)
		if b := stuffed(c.kind).Bytes(); !bytes.Equal(b, want) {
			t.Errorf("kind %d: %v, not %v", c.kind, b, want)
		}
	}
	if b := (Rec{Kind: Commit, Txn: api.Txn{Boot: 1, Session: 2, Seq: 300}}).Bytes(); !bytes.Equal(b, []byte{2, 1, 2, 5, 1, 2, 249, 1, 44}) {
		t.Errorf("example 1: %v", b)
	}
	if b := (Rec{Kind: Decide}).Bytes(); !bytes.Equal(b, []byte{5, 1, 6, 3, 0, 0, 0, 1, 0, 0, 0}) {
		t.Errorf("a Decide of nothing: %v", b)
	}
	if b := (Rec{Kind: Prepare}).Bytes(); !bytes.Equal(b, []byte{4, 1, 1, 3, 0, 0, 0, 1, 0, 1, 0}) {
		t.Errorf("a Prepare of nothing: %v", b)
	}
}

func TestReadErrors(t *testing.T) { // P6.1
	txn, none := []byte{1, 2, 3}, []byte{0}
	join := pack.Join
	for what, c := range map[string]struct {
		b    []byte
		want api.Errno
	}{
		"nothing":                        {nil, api.ErrEnd},
		"a frame that ends":              {[]byte{1, 2, 9}, api.ErrEnd},
		"a frame with bytes left":        {[]byte{1, 1, 9, 7}, api.ErrForm},
		"a frame with a long number":     {[]byte{248, 1, 1, 9}, api.ErrForm},
		"the frame ahead of the kind":    {[]byte{2, 1, 77, 5}, api.ErrEnd},
		"no kind":                        {join(), api.ErrForm},
		"an empty kind":                  {join(nil, txn), api.ErrForm},
		"a kind of two bytes":            {join([]byte{9, 9}, txn), api.ErrForm},
		"the kind 0":                     {join([]byte{0}), api.ErrForm},
		"the kind 10":                    {join([]byte{10}, txn), api.ErrForm},
		"the kind 255":                   {join([]byte{255}), api.ErrForm},
		"an End without its Txn":         {join([]byte{9}), api.ErrForm},
		"an End with one part more":      {join([]byte{9}, txn, nil), api.ErrForm},
		"a Mark without its Name":        {join([]byte{5}, []byte{1}), api.ErrForm},
		"a bad Id ahead of a want":       {join([]byte{5}, []byte{248}), api.ErrEnd},
		"a bad Txn ahead of too many":    {join([]byte{9}, []byte{1, 2}, nil), api.ErrEnd},
		"an empty Txn":                   {join([]byte{9}, nil), api.ErrEnd},
		"a Txn of two":                   {join([]byte{9}, []byte{1, 2}), api.ErrEnd},
		"a Txn of four":                  {join([]byte{9}, []byte{1, 2, 3, 4}), api.ErrForm},
		"a Txn with a long number":       {join([]byte{9}, []byte{1, 248, 7, 3}), api.ErrForm},
		"a Txn that ends in a number":    {join([]byte{9}, []byte{1, 2, 249, 1}), api.ErrEnd},
		"a long number ahead of the end": {join([]byte{9}, []byte{248, 7}), api.ErrForm},
		"an empty Id":                    {join([]byte{7}, nil, nil), api.ErrEnd},
		"an Id with more behind":         {join([]byte{7}, []byte{7, 7}, nil), api.ErrForm},
		"a Commit of none":               {join([]byte{6}, txn, nil, nil, nil), api.ErrEnd},
		"a Commit of 2":                  {join([]byte{6}, txn, []byte{2}, nil, nil), api.ErrForm},
		"a Commit of two bytes":          {join([]byte{6}, txn, []byte{1, 0}, nil, nil), api.ErrForm},
		"Shards that end":                {join([]byte{6}, txn, none, []byte{1, 248}, nil), api.ErrEnd},
		"Shards with a long number":      {join([]byte{6}, txn, none, []byte{1, 248, 5, 249}, nil), api.ErrForm},
		"a Commit ahead of Shards":       {join([]byte{6}, txn, []byte{2}, []byte{248}, nil), api.ErrForm},
		"Shards ahead of a want":         {join([]byte{6}, txn, none, []byte{248}), api.ErrEnd},
		"a Decide without its Reply":     {join([]byte{6}, txn, none, nil), api.ErrForm},
		"a One without its Reply":        {join([]byte{4}, txn, none), api.ErrForm},
		"Writes of none":                 {join([]byte{4}, txn, nil, nil), api.ErrEnd},
		"Writes that end":                {join([]byte{4}, txn, []byte{3, 1, 0, 0, 1}, nil), api.ErrEnd},
		"Writes with more behind":        {join([]byte{4}, txn, []byte{0, 0}, nil), api.ErrForm},
		"Writes of one part":             {join([]byte{4}, txn, join(none), nil), api.ErrForm},
		"Writes of four parts":           {join([]byte{4}, txn, join(nil, nil, nil, nil), nil), api.ErrForm},
		"Writes' frame ahead of three":   {join([]byte{4}, txn, []byte{2, 0, 9}, nil), api.ErrEnd},
		"Writes with an empty flag":      {join([]byte{4}, txn, join(nil, nil, nil), nil), api.ErrEnd},
		"Writes with a flag of 2":        {join([]byte{4}, txn, join([]byte{2}, nil, nil), nil), api.ErrForm},
		"Writes with a long flag":        {join([]byte{4}, txn, join([]byte{1, 1}, nil, nil), nil), api.ErrForm},
		"Writes with a later bad flag":   {join([]byte{4}, txn, join(none, nil, nil, nil, nil, nil), nil), api.ErrEnd},
		"the first bad flag":             {join([]byte{4}, txn, join([]byte{7}, nil, nil, nil, nil, nil), nil), api.ErrForm},
		"Writes ahead of Ranges":         {join([]byte{1}, txn, join(nil, nil, nil), join(none)), api.ErrEnd},
		"Ranges of two parts":            {join([]byte{1}, txn, none, join(none, nil)), api.ErrForm},
		"Ranges with an empty flag":      {join([]byte{1}, txn, none, join(nil, nil, nil)), api.ErrEnd},
		"Ranges with a flag of 255":      {join([]byte{1}, txn, none, join([]byte{255}, nil, nil)), api.ErrForm},
		"Ranges of none":                 {join([]byte{1}, txn, none, nil), api.ErrEnd},
		"a Prepare without its Ranges":   {join([]byte{1}, txn, none), api.ErrForm},
		"a Prepare with one part more":   {join([]byte{1}, txn, none, none, none), api.ErrForm},
	} {
		r, e := Read(c.b)
		if e != c.want || !reflect.DeepEqual(r, Rec{}) {
			t.Errorf("%s: %+v, %d, not %d", what, r, e, c.want)
		}
	}
}

func TestReadAnyBytes(t *testing.T) { // P6.1
	random := rand.New(rand.NewSource(6))
	good := 0
	for range 60000 {
		b := stuffed(1 + random.Intn(9)).Bytes()
		for range 1 + random.Intn(3) {
			switch at := random.Intn(len(b) + 1); random.Intn(3) {
			case 0:
				b = b[:at]
			case 1:
				b = slices.Insert(b, at, byte(random.Intn(256)))
			default:
				if at < len(b) {
					b[at] = byte(random.Intn(12))
				}
			}
		}
		r, e := Read(b)
		switch {
		case e == api.OK && !bytes.Equal(r.Bytes(), b):
			t.Fatalf("Read(%v) = %+v, whose bytes are %v", b, r, r.Bytes())
		case e == api.OK:
			good++
		case e != api.ErrForm && e != api.ErrEnd || !reflect.DeepEqual(r, Rec{}):
			t.Fatalf("Read(%v) = %+v, %d", b, r, e)
		}
	}
	if good < 1000 {
		t.Errorf("only %d were read", good)
	}
}

func TestTouched(t *testing.T) { // P6.2
	x := func(n uint64) api.Txn { return api.Txn{Boot: n, Session: n, Seq: n} }
	for kind := -1; kind <= 11; kind++ {
		uses := slices.Contains([]int{1, 2, 3, 4, 6, 9}, kind)
		if got := Touched(Rec{Kind: kind, Txn: x(5)}); (len(got) == 1 && got[0] == x(5)) != uses || len(got) > 1 {
			t.Errorf("kind %d: %v", kind, got)
		}
	}
	got := Touched(
		Rec{Kind: Commit, Txn: x(3)}, Rec{Kind: Mark, Txn: x(7)}, Rec{Kind: Prepare, Txn: x(1)}, Rec{Kind: End, Txn: x(3)},
		Rec{Kind: 0, Txn: x(8)}, Rec{Kind: Abort, Txn: api.Txn{}}, Rec{Kind: One, Txn: api.Txn{Boot: 1}},
		Rec{Kind: Decide, Txn: api.Txn{Session: 1}}, Rec{Kind: Decide, Txn: api.Txn{Seq: 1}}, Rec{Kind: One, Txn: x(1)}, Rec{Kind: Decide, Txn: x(7)})
	want := []api.Txn{x(3), x(1), {}, {Boot: 1}, {Session: 1}, {Seq: 1}, x(7)}
	if !slices.Equal(got, want) {
		t.Errorf("Touched = %v, not %v", got, want)
	}
	if got := Touched(); len(got) != 0 {
		t.Errorf("of none: %v", got)
	}
}

func TestBetween(t *testing.T) { // P6.2
	var list []Pos
	for i, kind := range []int{Commit, Mark, Commit, 0, End, Mark, -7} {
		list = append(list, Pos{stuffed(kind), uint64(i)})
	}
	list = append(list, Pos{stuffed(Mark), 2}, Pos{stuffed(End), math.MaxUint64}) // places needn't rise
	for _, c := range []struct {
		from, to uint64
		kinds    []int
		want     []uint64
	}{
		{0, 7, nil, []uint64{0, 1, 2, 3, 4, 5, 6, 2}},
		{2, 5, nil, []uint64{2, 3, 4, 2}},
		{2, 5, []int{}, []uint64{2, 3, 4, 2}},
		{0, 7, []int{Mark}, []uint64{1, 5, 2}},
		{0, 5, []int{Mark, Commit}, []uint64{0, 1, 2, 2}},
		{0, 5, []int{Mark, Commit, Mark}, []uint64{0, 1, 2, 2}},
		{0, 7, []int{0, -7}, []uint64{3, 6}},
		{0, 7, []int{Prepare, 99}, nil},
		{3, 3, nil, nil},
		{5, 2, nil, nil},
		{7, math.MaxUint64, nil, nil},
		{0, math.MaxUint64, []int{End}, []uint64{4}},
	} {
		var got []uint64
		for _, p := range Between(list, c.from, c.to, c.kinds...) {
			got = append(got, p.At)
			if !alike(p.Rec, stuffed(p.Kind)) {
				t.Errorf("Between changed a record: %+v", p)
			}
		}
		if !slices.Equal(got, c.want) {
			t.Errorf("Between(%d, %d, %v) = %v, not %v", c.from, c.to, c.kinds, got, c.want)
		}
	}
	if got := Between(nil, 0, 9); len(got) != 0 {
		t.Errorf("of none: %v", got)
	}
}

// spoil writes over all that a record has, its spare room too.
func spoil(r Rec) {
	all := func(b []byte) {
		b = b[:cap(b)]
		for i := range b {
			b[i] = 77
		}
	}
	writes, ranges, shards := r.Writes[:cap(r.Writes)], r.Ranges[:cap(r.Ranges)], r.Shards[:cap(r.Shards)]
	for i, w := range writes {
		all(w.Key)
		all(w.Value)
		writes[i] = api.Write{Key: text("spoilt")}
	}
	for i, x := range ranges {
		all(x.From)
		all(x.To)
		ranges[i] = api.Range{To: text("spoilt")}
	}
	for i := range shards {
		shards[i] = 77
	}
	all(r.Reply)
}

func TestMemory(t *testing.T) { // P6.3
	for kind := range 11 {
		given := stuffed(kind)
		given.Reply = append(make([]byte, 0, 20), given.Reply...)
		given.Shards = append(make([]int, 0, 20), given.Shards...)
		b := given.Bytes()
		want := slices.Clone(b)
		found := Between([]Pos{{given, 1}, {given, 2}}, 0, 9)
		if !alike(given, stuffed(kind)) || given.Reply[:20][19] != 0 || given.Shards[:20][19] != 0 {
			t.Errorf("kind %d: what was handed in was changed: %+v", kind, given)
		}
		spoil(given)
		if !bytes.Equal(b, want) || !alike(found[0].Rec, stuffed(kind)) {
			t.Errorf("kind %d: an answer shares memory with what was handed in: %+v", kind, found[0])
		}
		spoil(found[0].Rec)
		if !alike(found[1].Rec, stuffed(kind)) {
			t.Errorf("kind %d: two answers share memory: %+v", kind, found[1])
		}
		one, _ := Read(b)
		other, _ := Read(b)
		spoil(one)
		if !bytes.Equal(b, want) || !alike(other, used(kind)) && kind >= 1 && kind <= 9 {
			t.Errorf("kind %d: what was read shares memory: %v, %+v", kind, b, other)
		}
		clear(b)
		if kind >= 1 && kind <= 9 && !bytes.Equal(other.Bytes(), want) {
			t.Errorf("kind %d: what was read keeps what was handed in", kind)
		}
	}
	// Fields of one record that is read share nothing with one another either, nor do they grow into each other.
	r, _ := Read(stuffed(Prepare).Bytes())
	for _, w := range r.Writes {
		_ = append(w.Key, "grown"...)
		_ = append(w.Value, "grown"...)
	}
	if !alike(r, used(Prepare)) {
		t.Errorf("what was read grows into itself: %+v", r)
	}
}
