package disk_test

import (
	"maps"
	"math/rand"
	"slices"
	"strings"
	"testing"

	"bureau/api"
	"bureau/disk"
)

// model is the chapter's words as they stand: slow, and without a way of its own.
type model struct {
	seen, kept          map[string]string
	changes             []modelChange
	room, steps, starts int
	crash               int
	down                bool
}

type modelChange struct {
	name string
	size int // -1: of a sector
	k    int
	data string
}

func newModel(room int) *model {
	return &model{seen: map[string]string{}, kept: map[string]string{}, room: room}
}

func (m *model) copy() *model {
	c := *m
	c.seen, c.kept, c.changes = maps.Clone(m.seen), maps.Clone(m.kept), slices.Clone(m.changes)
	return &c
}

// sized is s with n bytes.
func sized(s string, n int) string {
	return (s + zeros(max(0, n-len(s))))[:n]
}

// over is s with data at a place; what lies behind its end is left out.
func over(s string, at int, data string) string {
	b := []byte(s)
	for i := range len(data) {
		if at+i < len(b) {
			b[at+i] = data[i]
		}
	}
	return string(b)
}

func (m *model) full(name string, size int) bool {
	sum := 0
	for _, s := range m.seen {
		sum += len(s)
	}
	return size > len(m.seen[name]) && sum-len(m.seen[name])+size > m.room
}

func (m *model) step() api.Errno {
	m.steps++
	m.crash--
	if m.crash == 0 {
		m.down = true
		return api.ErrOver
	}
	return api.OK
}

func (m *model) setSize(name string, n int) {
	m.seen[name] = sized(m.seen[name], n)
	m.changes = append(m.changes, modelChange{name: name, size: n})
}

func (m *model) write(name string, at int, data string) api.Errno {
	end := at + len(data)
	switch {
	case m.down:
		return api.ErrOver
	case at < 0:
		return api.ErrArg
	case end > api.MaxFile:
		return api.ErrLong
	case data == "":
		return m.step()
	case m.full(name, end):
		return api.ErrFull
	}
	if end > len(m.seen[name]) {
		m.setSize(name, end)
	}
	m.seen[name] = over(m.seen[name], at, data)
	for k := 0; k <= end/64; k++ {
		if 64*k+63 >= at && 64*k < end {
			sector := sized(m.seen[name][64*k:], 64)
			m.changes = append(m.changes, modelChange{name: name, size: -1, k: k, data: sector})
		}
	}
	return m.step()
}

func (m *model) truncate(name string, n int) api.Errno {
	switch {
	case m.down:
		return api.ErrOver
	case n < 0:
		return api.ErrArg
	case n > api.MaxFile:
		return api.ErrLong
	case m.full(name, n):
		return api.ErrFull
	}
	if n != len(m.seen[name]) {
		m.setSize(name, n)
	}
	return m.step()
}

func (m *model) sync(name string) api.Errno {
	if m.down {
		return api.ErrOver
	}
	if e := m.step(); e != api.OK {
		return e
	}
	m.kept[name] = m.seen[name]
	m.changes = slices.DeleteFunc(m.changes, func(c modelChange) bool { return c.name == name })
	return api.OK
}

func (m *model) restart(choices []int) api.Errno {
	if !m.down {
		return api.ErrNone
	}
	for i, c := range m.changes {
		k := 0
		if i < len(choices) {
			k = choices[i]
		}
		switch {
		case k <= 0:
		case c.size >= 0:
			m.kept[c.name] = sized(m.kept[c.name], c.size)
		case k == 1:
			m.kept[c.name] = over(m.kept[c.name], 64*c.k, c.data)
		default:
			m.kept[c.name] = over(m.kept[c.name], 64*c.k, c.data[:1+(k-2)%63])
		}
	}
	m.seen = maps.Clone(m.kept)
	m.changes, m.steps, m.crash, m.down = nil, 0, 0, false
	m.starts++
	return api.OK
}

func (m *model) names() []string {
	var names []string
	for name, s := range m.seen {
		if s != "" && !m.down {
			names = append(names, name)
		}
	}
	slices.Sort(names)
	return names
}

// differs says in what a disk and its model are not the same.
func differs(d *disk.Disk, m *model) string {
	if d.Down() != m.down || d.Steps() != m.steps || d.Starts() != m.starts || d.Pending() != len(m.changes) {
		return "counts"
	}
	if !slices.Equal(d.Names(), m.names()) {
		return "names"
	}
	for name, bytes := range m.seen {
		e := api.OK
		if m.down {
			bytes, e = "", api.ErrOver
		}
		if s, f := d.Read(name, 0, api.MaxFile); s != bytes || f != e || d.Len(name) != len(bytes) {
			return "file " + name
		}
	}
	return ""
}

// act does one thing, taken at random, to a disk and to its model, and tells both answers.
func act(r *rand.Rand, d *disk.Disk, m *model) (api.Errno, api.Errno) {
	name := []string{"a", "b", "c"}[r.Intn(3)]
	switch n := r.Intn(20); {
	case n < 9:
		at := r.Intn(300) - 3
		data := strings.Repeat(string(rune('a'+r.Intn(26))), r.Intn(150))
		return d.Write(name, at, data), m.write(name, at, data)
	case n < 12:
		size := r.Intn(400) - 3
		return d.Truncate(name, size), m.truncate(name, size)
	case n < 15:
		return d.Sync(name), m.sync(name)
	case n < 16:
		m.room = r.Intn(1500)
		d.SetRoom(m.room)
	case n < 17:
		m.crash = r.Intn(9)
		d.CrashIn(m.crash)
	case n < 18 && r.Intn(3) == 0:
		m.down = true
		d.Crash()
	default:
		choices := make([]int, r.Intn(len(m.changes)+3))
		for i := range choices {
			choices[i] = []int{-1, 0, 1, 1, 2 + r.Intn(200)}[r.Intn(5)]
		}
		return d.Restart(choices), m.restart(choices)
	}
	return api.OK, api.OK
}

func TestAgainstModel(t *testing.T) {
	for seed := range int64(300) {
		r := rand.New(rand.NewSource(seed))
		d, m := disk.New(1000), newModel(1000)
		was, wasModel := d.Copy(), m.copy()
		for i := range 120 {
			if got, wanted := act(r, d, m); got != wanted {
				t.Fatalf("seed %d, act %d: %v, not %v", seed, i, got, wanted)
			}
			if what := differs(d, m); what != "" {
				t.Fatalf("seed %d, act %d: %s", seed, i, what)
			}
			if r.Intn(20) > 0 {
				continue
			}
			if what := differs(was, wasModel); what != "" {
				t.Fatalf("seed %d, act %d: a copy from before: %s", seed, i, what)
			}
			was, wasModel, d, m = d, m, d.Copy(), m.copy()
		}
	}
}

// What was synced and not changed since is as it was behind any crash; of a file whose changes were all made it is as it was seen.
func TestP18KeptAndSeen(t *testing.T) {
	for seed := range int64(300) {
		r := rand.New(rand.NewSource(seed))
		d, m := disk.New(2000), newModel(2000)
		for range 40 {
			act(r, d, m)
		}
		if d.Down() {
			d.Restart(nil)
		}
		d.CrashIn(0)
		d.SetRoom(4000)
		synced, _ := d.Read("a", 0, api.MaxFile)
		d.Sync("a")
		for range r.Intn(10) {
			d.Write("b", r.Intn(300), strings.Repeat("y", r.Intn(150)))
			d.Truncate("b", r.Intn(300))
		}
		seen, _ := d.Read("b", 0, api.MaxFile)
		choices := make([]int, d.Pending())
		for i := range choices {
			choices[i] = 1
		}
		torn := d.Copy()
		restarted(t, d, choices...)
		holds(t, d, "a", synced)
		holds(t, d, "b", seen)
		for i := range choices {
			choices[i] = r.Intn(70)
		}
		restarted(t, torn, choices...)
		holds(t, torn, "a", synced)
	}
}
