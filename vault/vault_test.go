package vault_test

import (
	"bytes"
	"maps"
	"math"
	"math/rand"
	"slices"
	"strings"
	"testing"

	"groyne/api"
	"groyne/vault"
)

func TestExamples(t *testing.T) { // P10.1, P10.3
	v := vault.New()
	for i, got := range []api.Errno{v.Put("a", []byte{1}), v.Put("a", []byte{1}), v.Put("a", []byte{2})} {
		if want := []api.Errno{api.OK, api.OK, api.ErrThere}[i]; got != want {
			t.Errorf("Put %d: %v, want %v", i, got, want)
		}
	}
	if b, e := v.Get("a"); e != api.OK || !bytes.Equal(b, []byte{1}) {
		t.Errorf("Get = %v, %v", b, e)
	}
	if n := v.Lose("a", "b", "a"); n != 1 {
		t.Errorf("Lose = %d", n)
	}
	if e := v.Put("a", []byte{2}); e != api.OK {
		t.Errorf("Put behind Lose: %v", e)
	}
	if s := vault.Number(255); s != "00000000000000ff" {
		t.Errorf("Number(255) = %q", s)
	}
	if n, ok := vault.ToNumber("ff"); n != 0 || ok {
		t.Errorf("ToNumber(ff) = %d, %v", n, ok)
	}
}

func TestZeroVault(t *testing.T) { // P10.1
	for how, v := range map[string]*vault.Vault{"New": vault.New(), "the zero one": {}} {
		if b, e := v.Get(""); b != nil || e != api.ErrNone {
			t.Errorf("%s: Get = %v, %v", how, b, e)
		}
		if l := v.List(""); len(l) != 0 || v.Count() != 0 || v.Lose() != 0 || v.Lose("", "a") != 0 {
			t.Errorf("%s isn't empty: %v, %d", how, l, v.Count())
		}
		if e := v.Put("", nil); e != api.OK || v.Count() != 1 {
			t.Errorf("%s: Put: %v", how, e)
		}
		if b, e := v.Get(""); len(b) != 0 || e != api.OK {
			t.Errorf("%s: a thing without bytes or a name: %v, %v", how, b, e)
		}
	}
}

func TestNoneIsNil(t *testing.T) { // P10.1
	v := vault.New()
	v.Put("a", nil)
	if e := v.Put("a", []byte{}); e != api.OK {
		t.Errorf("nothing again: %v", e)
	}
	if e := v.Put("a", []byte{0}); e != api.ErrThere {
		t.Errorf("a byte: %v", e)
	}
	if b, e := v.Get("a"); len(b) != 0 || e != api.OK {
		t.Errorf("Get = %v, %v", b, e)
	}
}

func TestList(t *testing.T) { // P10.1
	v := vault.New()
	for _, name := range []string{"b/2", "b/10", "a", "b", "b/", "B/", "c\xff", "", "b/1"} {
		if e := v.Put(name, []byte(name)); e != api.OK {
			t.Fatal(e)
		}
	}
	for prefix, want := range map[string][]string{
		"":      {"", "B/", "a", "b", "b/", "b/1", "b/10", "b/2", "c\xff"},
		"b":     {"b", "b/", "b/1", "b/10", "b/2"},
		"b/":    {"b/", "b/1", "b/10", "b/2"},
		"b/1":   {"b/1", "b/10"},
		"b/11":  nil,
		"c\xff": {"c\xff"},
	} {
		if got := v.List(prefix); !slices.Equal(got, want) {
			t.Errorf("List(%q) = %q", prefix, got)
		}
	}
}

func TestBig(t *testing.T) { // P10.1: a vault has no limit of its own
	v := vault.New()
	big := bytes.Repeat([]byte{7}, 1<<22)
	if e := v.Put(strings.Repeat("n", 1<<16), big); e != api.OK {
		t.Errorf("Put: %v", e)
	}
	if b, e := v.Get(strings.Repeat("n", 1<<16)); e != api.OK || !bytes.Equal(b, big) {
		t.Errorf("Get: %d bytes, %v", len(b), e)
	}
}

func TestScripts(t *testing.T) { // P10.1, P10.2
	for seed := range int64(50) {
		rnd := rand.New(rand.NewSource(seed))
		v, model := vault.New(), map[string]string{}
		name := func() string { return strings.Repeat("a", rnd.Intn(3)) + strings.Repeat("b", rnd.Intn(3)) }
		for range 200 {
			switch rnd.Intn(3) {
			case 0, 1:
				at, b := name(), name()
				old, there := model[at]
				e := v.Put(at, []byte(b))
				if there && old != b {
					if e != api.ErrThere {
						t.Fatalf("Put: %v", e)
					}
					continue
				}
				if e != api.OK {
					t.Fatalf("Put: %v", e)
				}
				model[at] = b
			case 2:
				names := []string{name(), name(), name()}
				ahead := len(model)
				for _, at := range names {
					delete(model, at)
				}
				if n := v.Lose(names...); n != ahead-len(model) {
					t.Fatalf("Lose = %d", n)
				}
			}
			hold(t, v, model, vault.Shelf{Vault: v, Prefix: name()}, name())
		}
	}
}

// hold looks whether a vault, and a shelf of it, have just what a map has.
func hold(t *testing.T, v *vault.Vault, model map[string]string, s vault.Shelf, part string) {
	t.Helper()
	if v.Count() != len(model) || !slices.Equal(v.List(""), slices.Sorted(maps.Keys(model))) {
		t.Fatalf("it has %q, %d of them", v.List(""), v.Count())
	}
	for name, b := range model {
		if got, e := v.Get(name); e != api.OK || string(got) != b {
			t.Fatalf("Get(%q) = %q, %v, want %q", name, got, e, b)
		}
	}
	var names []string
	for _, name := range v.List(s.Prefix + part) {
		names = append(names, strings.TrimPrefix(name, s.Prefix))
	}
	if got := s.Names(part); !slices.Equal(got, names) {
		t.Fatalf("Names(%q) behind %q = %q, want %q", part, s.Prefix, got, names)
	}
	for _, name := range names {
		if b, e := s.Fetch(name); e != api.OK || string(b) != model[s.Prefix+name] {
			t.Fatalf("Fetch(%q) = %q, %v", name, b, e)
		}
	}
}

func TestShelf(t *testing.T) { // P10.2
	v := vault.New()
	s := vault.Shelf{Vault: v, Prefix: "n0/"}
	for _, c := range []struct {
		parts []string
		want  string
	}{{nil, "n0/"}, {[]string{""}, "n0/"}, {[]string{"a"}, "n0/a"}, {[]string{"a", "", "b/", "c"}, "n0/ab/c"}} {
		if got := s.Path(c.parts...); got != c.want {
			t.Errorf("Path(%q) = %q", c.parts, got)
		}
		if sub := s.Sub(c.parts...); sub.Prefix != c.want || sub.Vault != v {
			t.Errorf("Sub(%q) = %q", c.parts, sub.Prefix)
		}
	}
	v.Put("n0", []byte("ahead"))
	v.Put("n1/seg.1", []byte("other"))
	if e := s.Store([]byte("x"), "seg.", "1"); e != api.OK {
		t.Errorf("Store: %v", e)
	}
	if e := s.Sub("seg").Store([]byte("y"), ".", "10"); e != api.OK {
		t.Errorf("Store of a sub: %v", e)
	}
	if e := s.Store([]byte("z")); e != api.OK {
		t.Errorf("Store of no parts: %v", e)
	}
	if e := s.Store([]byte("y"), "seg.1"); e != api.ErrThere {
		t.Errorf("Store of others: %v", e)
	}
	if e := s.Store([]byte("x"), "s", "eg.1"); e != api.OK {
		t.Errorf("Store of the same: %v", e)
	}
	if l := s.Names(); !slices.Equal(l, []string{"", "seg.1", "seg.10"}) {
		t.Errorf("Names = %q", l)
	}
	if l := s.Names("se", "g.1", "0"); !slices.Equal(l, []string{"seg.10"}) {
		t.Errorf("Names = %q", l)
	}
	if l := s.Sub("seg.").Names("1"); !slices.Equal(l, []string{"1", "10"}) {
		t.Errorf("Names of a sub = %q", l)
	}
	if l := s.Names("x"); len(l) != 0 {
		t.Errorf("Names = %q", l)
	}
	if b, e := s.Fetch("seg.", "10"); string(b) != "y" || e != api.OK {
		t.Errorf("Fetch = %q, %v", b, e)
	}
	if b, e := s.Fetch(); string(b) != "z" || e != api.OK {
		t.Errorf("Fetch of no parts = %q, %v", b, e)
	}
	if b, e := s.Fetch("seg."); b != nil || e != api.ErrNone {
		t.Errorf("Fetch of nothing = %q, %v", b, e)
	}
	// What the vault has is the shelf's, with whole names.
	if b, e := s.Get("n1/seg.1"); string(b) != "other" || e != api.OK || s.Count() != 5 || s.Lose("n0/seg.1") != 1 {
		t.Errorf("Get = %q, %v", b, e)
	}
}

func TestNumbers(t *testing.T) { // P10.3
	list := []uint64{0, 1, 9, 10, 15, 16, 255, 1 << 31, 1<<32 - 1, 1 << 32, math.MaxInt64, 1 << 63, math.MaxUint64}
	rnd := rand.New(rand.NewSource(1))
	for range 2000 {
		list = append(list, rnd.Uint64()>>rnd.Intn(64))
	}
	slices.Sort(list)
	for i, n := range list {
		s := vault.Number(n)
		if len(s) != 16 || strings.Trim(s, "0123456789abcdef") != "" {
			t.Errorf("Number(%d) = %q", n, s)
		}
		if back, ok := vault.ToNumber(s); back != n || !ok {
			t.Errorf("ToNumber(%q) = %d, %v", s, back, ok)
		}
		if i > 0 && (list[i-1] < n) != (vault.Number(list[i-1]) < s) {
			t.Errorf("the order of %d and %d", list[i-1], n)
		}
	}
	if s := vault.Number(math.MaxUint64); s != "ffffffffffffffff" {
		t.Errorf("the greatest one: %q", s)
	}
	for _, s := range []string{
		"", "0", "ff", "000000000000000", "00000000000000000", "00000000000000FF", "00000000000000fg",
		"+00000000000000f", "-00000000000000f", "0x000000000000ff", "0000000_000000ff", " 0000000000000ff",
		"000000000000000\x00", "10000000000000000", "fffffffffffffffff", "0000000000000é", strings.Repeat("0", 1<<16),
	} {
		if n, ok := vault.ToNumber(s); n != 0 || ok {
			t.Errorf("ToNumber(%.20q) = %d, %v", s, n, ok)
		}
	}
}

// smear writes over bytes and their spare room.
func smear(b []byte) {
	for i := range b[:cap(b)] {
		b[:cap(b)][i] = '!'
	}
}

func TestMemory(t *testing.T) { // P10.4
	v := vault.New()
	s := vault.Shelf{Vault: v, Prefix: "s/"}
	b := append(make([]byte, 0, 9), "bytes"...)
	parts := append(make([]string, 0, 9), "a", "b")
	v.Put("a", b)
	s.Store(b, parts...)
	s.Path(parts...)
	s.Sub(parts...)
	s.Names(parts...)
	s.Fetch(parts...)
	v.Lose(parts[1:]...)
	if string(b[:9]) != "bytes\x00\x00\x00\x00" || !slices.Equal(parts[:4], []string{"a", "b", "", ""}) {
		t.Errorf("a call changed what it was handed: %q, %q", b[:9], parts)
	}
	smear(b)
	for range 2 {
		for _, get := range []func() ([]byte, api.Errno){
			func() ([]byte, api.Errno) { return v.Get("a") },
			func() ([]byte, api.Errno) { return s.Fetch("ab") },
		} {
			got, e := get()
			if string(got) != "bytes" || e != api.OK {
				t.Errorf("the thing is %q, %v", got, e)
			}
			smear(got)
		}
	}
	v.List("")[0] = "x"
	s.Names()[0] = "x"
	if !slices.Equal(v.List(""), []string{"a", "s/ab"}) || !slices.Equal(s.Names(), []string{"ab"}) {
		t.Errorf("names: %q, %q", v.List(""), s.Names())
	}
}
