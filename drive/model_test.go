package drive

import (
	"bytes"
	"fmt"
	"maps"
	"math/rand"
	"slices"
	"strings"
	"testing"

	"groyne/api"
)

// step is one unit of an operation: what it makes of the files.
type step func(f map[string]string)

// model is a drive by the chapter's words: all it sees is made anew from its steps each time.
type model struct {
	room  int
	safe  map[string]string
	queue [][]step
	arm   int // below 0: not armed
	dead  bool
}

func newModel(room int) *model {
	return &model{room: room, safe: map[string]string{}, arm: -1}
}

func (m *model) units() []step { return slices.Concat(m.queue...) }

func (m *model) seen() map[string]string {
	f := maps.Clone(m.safe)
	for _, s := range m.units() {
		s(f)
	}
	return f
}

func (m *model) used() int {
	n := 0
	for _, b := range m.seen() {
		n += len(b)
	}
	return n
}

func (m *model) raw(steps ...step) api.Errno {
	m.queue = append(m.queue, steps)
	if m.arm == 0 {
		m.dead = true
		return api.ErrDead
	}
	m.arm = max(m.arm-1, -1)
	return api.OK
}

func (m *model) write(name string, at int, b []byte) api.Errno {
	old, used := m.seen()[name], m.used()
	switch {
	case m.dead:
		return api.ErrDead
	case at < 0 || at > len(old):
		return api.ErrArg
	case used+max(at+len(b)-len(old), 0) > m.room:
		return api.ErrFull
	}
	steps := []step{func(f map[string]string) { f[name] = f[name] }}
	for i, x := range b {
		steps = append(steps, func(f map[string]string) {
			rest := ""
			if at+i+1 < len(f[name]) {
				rest = f[name][at+i+1:]
			}
			f[name] = f[name][:at+i] + string([]byte{x}) + rest
		})
	}
	return m.raw(steps...)
}

func (m *model) trim(name string, size int) api.Errno {
	old, there := m.seen()[name]
	switch {
	case m.dead:
		return api.ErrDead
	case size < 0 || there && size > len(old):
		return api.ErrArg
	case !there:
		return api.ErrNone
	}
	return m.raw(func(f map[string]string) { f[name] = f[name][:size] })
}

func (m *model) rename(from, to string) api.Errno {
	_, there := m.seen()[from]
	switch {
	case m.dead:
		return api.ErrDead
	case !there:
		return api.ErrNone
	}
	return m.raw(func(f map[string]string) {
		b := f[from]
		delete(f, from)
		f[to] = b
	})
}

func (m *model) remove(name string) api.Errno {
	_, there := m.seen()[name]
	switch {
	case m.dead:
		return api.ErrDead
	case !there:
		return api.ErrNone
	}
	return m.raw(func(f map[string]string) { delete(f, name) })
}

func (m *model) flush() api.Errno {
	if m.dead {
		return api.ErrDead
	}
	if m.arm == 0 {
		m.dead = true
		return api.ErrDead
	}
	m.arm = max(m.arm-1, -1)
	m.safe, m.queue = m.seen(), nil
	return api.OK
}

func (m *model) crash(keep int) {
	units := m.units()
	n := len(units) + 1
	for _, s := range units[:((keep%n)+n)%n] {
		s(m.safe)
	}
	m.queue, m.arm, m.dead = nil, -1, false
}

func (m *model) twin() *model {
	t := *m
	t.safe, t.queue = maps.Clone(m.safe), slices.Clone(m.queue)
	return &t
}

// differs tells how a drive looks other than its model, or nothing.
func differs(d *Drive, m *model) string {
	seen := m.seen()
	if d.Dead() != m.dead || d.Queue() != len(m.queue) || d.Used() != m.used() {
		return fmt.Sprintf("Dead %v %v, Queue %d %d, Used %d %d", d.Dead(), m.dead, d.Queue(), len(m.queue), d.Used(), m.used())
	}
	names := slices.Sorted(maps.Keys(seen))
	if m.dead {
		names = nil
	}
	if got := d.List(""); !slices.Equal(got, names) {
		return fmt.Sprintf("List %q, not %q", got, names)
	}
	for _, name := range []string{"a", "ab", "b", "b~", ""} {
		want, there := seen[name]
		e := api.OK
		switch {
		case m.dead:
			want, e = "", api.ErrDead
		case !there:
			e = api.ErrNone
		}
		if b, got := d.Read(name); string(b) != want || got != e || d.Size(name) != len(want) {
			return fmt.Sprintf("Read(%q) = %q, %d, Size %d, not %q, %d", name, b, got, d.Size(name), want, e)
		}
		with := slices.DeleteFunc(slices.Clone(names), func(n string) bool { return !strings.HasPrefix(n, name) })
		if got := d.List(name); !slices.Equal(got, with) {
			return fmt.Sprintf("List(%q) = %q, not %q", name, got, with)
		}
	}
	return ""
}

// chance does something to a drive and to its model; it answers what it did, and whether both answered alike.
func chance(r *rand.Rand, d *Drive, m *model) (string, bool) {
	names := []string{"a", "ab", "b", "b~", ""}
	one, two := names[r.Intn(5)], names[r.Intn(5)]
	at, b := r.Intn(8)-1, bytes.Repeat([]byte{byte(r.Intn(256))}, r.Intn(6))
	if n := len(m.seen()[one]); r.Intn(3) > 0 {
		at = r.Intn(n + 1)
	}
	for i := range b {
		b[i] += byte(i)
	}
	switch k := r.Intn(30); {
	case k < 9:
		return fmt.Sprintf("Write(%q, %d, %v)", one, at, b), d.Write(one, at, b) == m.write(one, at, b)
	case k < 14:
		return fmt.Sprintf("Append(%q, %v)", one, b), d.Append(one, b) == m.write(one, len(m.seen()[one]), b)
	case k < 17:
		return fmt.Sprintf("Trim(%q, %d)", one, at), d.Trim(one, at) == m.trim(one, at)
	case k < 20:
		return fmt.Sprintf("Rename(%q, %q)", one, two), d.Rename(one, two) == m.rename(one, two)
	case k < 22:
		return fmt.Sprintf("Remove(%q)", one), d.Remove(one) == m.remove(one)
	case k < 24:
		return "Flush()", d.Flush() == m.flush()
	case k < 26:
		n := r.Intn(8) - 2
		d.Arm(n)
		if !m.dead {
			m.arm = max(n, -1)
		}
		return fmt.Sprintf("Arm(%d)", n), true
	case k < 29:
		keep := r.Intn(80) - 20
		d.Crash(keep)
		m.crash(keep)
		return fmt.Sprintf("Crash(%d)", keep), true
	}
	if r.Intn(4) > 0 {
		return "nothing", true
	}
	d.Wipe()
	*m = *newModel(m.room)
	return "Wipe()", true
}

func TestAgainstTheModel(t *testing.T) { // P4.1, P4.2, P4.3
	type both struct {
		d *Drive
		m *model
	}
	for seed := range int64(300) {
		r := rand.New(rand.NewSource(seed))
		room := []int{0, 3, 12, 30, 1000}[seed%5]
		all := []both{{New(room), newModel(room)}}
		var told []string
		for range 120 {
			i := r.Intn(len(all))
			what, alike := chance(r, all[i].d, all[i].m)
			told = append(told, fmt.Sprintf("%d: %s", i, what))
			if !alike {
				t.Fatalf("seed %d: another answer: %q", seed, told)
			}
			if len(all) < 4 && r.Intn(30) == 0 {
				all = append(all, both{all[i].d.Twin(), all[i].m.twin()})
				told = append(told, fmt.Sprintf("%d: Twin()", i))
			}
			for _, x := range all {
				if how := differs(x.d, x.m); how != "" {
					t.Fatalf("seed %d: %s: %q", seed, how, told)
				}
			}
		}
	}
}
