package wal_test

import (
	"encoding/binary"
	"maps"
	"math"
	"math/rand"
	"slices"
	"strings"
	"testing"

	"bureau/api"
	"bureau/disk"
	"bureau/wal"
)

const plenty = 1 << 24

// want ends the test unless a call answered that error: loops that go on till there is none end by it.
func want(t *testing.T, what string, got, wanted api.Errno) {
	t.Helper()
	if got != wanted {
		t.Fatalf("%s: %v, not %v", what, got, wanted)
	}
}

// filled is a page of one byte, but for its first and its last one: what is taken from a wrong place is to be seen.
func filled(b byte) api.Page {
	var p api.Page
	for i := range p {
		p[i] = b
	}
	p[0], p[255] = b+1, b+2
	return p
}

// some is n pages.
func some(n int) []api.Page {
	var pages []api.Page
	for i := range n {
		pages = append(pages, filled(byte(3*i)))
	}
	return pages
}

// at is changed pages, with bytes of their own, by their numbers.
func at(b byte, numbers ...int) []api.PageAt {
	var pages []api.PageAt
	for _, n := range numbers {
		pages = append(pages, api.PageAt{N: n, P: filled(b + byte(n))})
	}
	return pages
}

// upTo is the numbers from one to another.
func upTo(from, to int) []int {
	var numbers []int
	for n := from; n <= to; n++ {
		numbers = append(numbers, n)
	}
	return numbers
}

// after is what a commit makes of pages, as lists.
func after(pages []api.Page, count int, changed []api.PageAt) []api.Page {
	made := make([]api.Page, count)
	copy(made, pages)
	for _, p := range changed {
		made[p.N-1] = p.P
	}
	return made
}

func bytesOf(pages []api.Page) string {
	var s strings.Builder
	for _, p := range pages {
		s.Write(p[:])
	}
	return s.String()
}

// store lays a file down and syncs it.
func store(d *disk.Disk, name, bytes string) {
	d.Truncate(name, 0)
	d.Write(name, 0, bytes)
	d.Sync(name)
}

// with is a disk with room, whose db and log are those bytes, synced.
func with(db, log string) *disk.Disk {
	d := disk.New(plenty)
	store(d, "db", db)
	store(d, "wal", log)
	return d
}

// read is the file's bytes.
func read(d *disk.Disk, name string) string {
	s, _ := d.Read(name, 0, math.MaxInt)
	return s
}

func zeros(n int) string { return strings.Repeat("\x00", n) }

// big is numbers in 4 bytes each, the greatest byte first.
func big(numbers ...int) string {
	var b []byte
	for _, n := range numbers {
		b = binary.BigEndian.AppendUint32(b, uint32(n))
	}
	return string(b)
}

// sealed is a sealed sector, laid by hand.
func sealed(a, b, c, e int) string { return strings.Repeat(big(a, b, c, e), 3) + zeros(16) }

// handFrame is a frame as the chapter words it: end is the count, and 1, or 0.
type handFrame struct {
	n, end int
	p      api.Page
}

// fr is a frame with a page of its own.
func fr(n, end int) handFrame { return handFrame{n, end, filled(byte(100 + 10*n + end))} }

func (f handFrame) bytes() string { return big(f.n, f.end) + zeros(56) + string(f.p[:]) }

// laid is a log whose head says so many frames, with these.
func laid(says int, frames ...handFrame) string {
	s := sealed(says, 0, 0, 0)
	for _, f := range frames {
		s += f.bytes()
	}
	return s
}

// whole is a log of just these frames.
func whole(frames ...handFrame) string { return laid(len(frames), frames...) }

// readByHand is the frames of a log's bytes, and whether they are as the chapter asks.
func readByHand(s string) ([]handFrame, bool) {
	if len(s) < 64 {
		return nil, true
	}
	head := s[:16]
	if head != s[16:32] {
		head = s[32:48]
	}
	says := int(binary.BigEndian.Uint32([]byte(head)))
	if head[4:] != zeros(12) || len(s) < 64+320*says {
		return nil, false
	}
	var frames []handFrame
	for k := range says {
		b := s[64+320*k : 64+320*(k+1)]
		f := handFrame{n: int(binary.BigEndian.Uint32([]byte(b))), end: int(binary.BigEndian.Uint32([]byte(b[4:])))}
		copy(f.p[:], b[64:])
		ends := f.end > 0
		if b != f.bytes() || f.n > 4096 || f.end > 4097 || f.n == 0 && !ends || k == says-1 && !ends {
			return nil, false
		}
		frames = append(frames, f)
	}
	return frames, true
}

// history is what the database is at each mark.
type history map[int][]api.Page

// historyByHand is what db's and a log's bytes say of it.
func historyByHand(db string, frames []handFrame) history {
	var pages []api.Page
	for ; len(db) >= 256; db = db[256:] {
		pages = append(pages, api.Page([]byte(db[:256])))
	}
	h := history{0: pages}
	last := map[int]api.Page{}
	for k, f := range frames {
		last[f.n] = f.p
		if f.end == 0 {
			continue
		}
		now := make([]api.Page, f.end-1)
		for i := range now {
			if p, ok := last[i+1]; ok {
				now[i] = p
			} else if i < len(pages) {
				now[i] = pages[i]
			}
		}
		h[k+1] = now
	}
	return h
}

// historyOf is what a disk's files say of it, by hand.
func historyOf(t *testing.T, d *disk.Disk) history {
	t.Helper()
	frames, ok := readByHand(read(d, "wal"))
	if !ok {
		t.Fatal("a log that may not be")
	}
	return historyByHand(read(d, "db"), frames)
}

func (h history) marks() []int {
	var marks []int
	for m := range h {
		marks = append(marks, m)
	}
	slices.Sort(marks)
	return marks
}

func (h history) last() int { return slices.Max(h.marks()) }

// and is the history with other pages at a mark, or with one mark more.
func (h history) and(mark int, pages []api.Page) history {
	more := maps.Clone(h)
	more[mark] = pages
	return more
}

// told is the database at a mark, as Count and Page tell it.
func told(t *testing.T, d *disk.Disk, mark int) []api.Page {
	t.Helper()
	count, e := wal.Count(d, mark)
	want(t, "Count", e, api.OK)
	var pages []api.Page
	for n := range count {
		p, e := wal.Page(d, mark, n+1)
		want(t, "Page", e, api.OK)
		pages = append(pages, p)
	}
	return pages
}

// tells fails the test unless the log has just the marks of h, and tells at those from one on what h says.
func tells(t *testing.T, what string, d *disk.Disk, h history, from int) {
	t.Helper()
	marks, e := wal.Marks(d)
	if e != api.OK || !slices.Equal(marks, h.marks()) {
		t.Fatalf("%s: marks %v %v, not %v", what, marks, e, h.marks())
	}
	if last, e := wal.Mark(d); e != api.OK || last != h.last() {
		t.Fatalf("%s: the last mark %v %v", what, last, e)
	}
	for _, m := range marks {
		if got := told(t, d, m); m >= from && !slices.Equal(got, h[m]) {
			t.Fatalf("%s: at the mark %d: %d pages, not the %d that are to be", what, m, len(got), len(h[m]))
		}
	}
}

// op is a step as the chapter words it, to be played on a disk by hand.
type op struct {
	do   string // write, truncate, sync
	name string
	at   int
	data string
}

// play makes steps till one is refused.
func play(d *disk.Disk, ops []op) api.Errno {
	for _, o := range ops {
		e := api.OK
		switch o.do {
		case "write":
			e = d.Write(o.name, o.at, o.data)
		case "truncate":
			e = d.Truncate(o.name, o.at)
		case "sync":
			e = d.Sync(o.name)
		}
		if e == api.ErrLong {
			return api.ErrFull
		}
		if e != api.OK {
			return e
		}
	}
	return api.OK
}

// head is the steps that write a head, and sync it.
func head(frames int) []op {
	return []op{{"write", "wal", 0, sealed(frames, 0, 0, 0)}, {"sync", "wal", 0, ""}}
}

// committing is the steps of a commit.
func committing(d *disk.Disk, count int, pages []api.PageAt) []op {
	frames, _ := readByHand(read(d, "wal"))
	k := len(frames)
	ops := head(k)
	if len(pages) == 0 {
		pages = []api.PageAt{{}}
	}
	for i, p := range pages {
		end := 0
		if i == len(pages)-1 {
			end = count + 1
		}
		ops = append(ops, op{"write", "wal", 64 + 320*(k+i), handFrame{p.N, end, p.P}.bytes()})
	}
	return slices.Concat(ops, []op{{"sync", "wal", 0, ""}}, head(k+len(pages)))
}

// homing is the steps of a checkpoint.
func homing(d *disk.Disk, mark int) []op {
	if mark == 0 {
		return nil
	}
	frames, _ := readByHand(read(d, "wal"))
	now := historyByHand(read(d, "db"), frames)[mark]
	ops := head(len(frames))
	for n := 1; n <= len(now); n++ {
		if slices.ContainsFunc(frames[:mark], func(f handFrame) bool { return f.n == n }) {
			ops = append(ops, op{"write", "db", 256 * (n - 1), string(now[n-1][:])})
		}
	}
	ops = append(ops, op{"truncate", "db", 256 * len(now), ""}, op{"sync", "db", 0, ""})
	if mark == len(frames) {
		ops = append(ops, head(0)...)
	}
	return ops
}

// sameDisks fails the test unless two disks are the same: in what they count, in what is seen, and in what is there behind crashes with the same choices.
func sameDisks(t *testing.T, what string, r *rand.Rand, got, wanted *disk.Disk) {
	t.Helper()
	if got.Steps() != wanted.Steps() || got.Pending() != wanted.Pending() || got.Down() != wanted.Down() {
		t.Fatalf("%s: steps %d, pending %d, down %v, not %d, %d, %v", what, got.Steps(), got.Pending(), got.Down(), wanted.Steps(), wanted.Pending(), wanted.Down())
	}
	sameFiles(t, what, got, wanted)
	n := got.Pending()
	for _, choices := range [][]int{nil, slices.Repeat([]int{1}, n), torn(r, n), torn(r, n)} {
		g, w := got.Copy(), wanted.Copy()
		g.Crash()
		w.Crash()
		g.Restart(choices)
		w.Restart(choices)
		sameFiles(t, what+", behind a crash", g, w)
	}
}

func sameFiles(t *testing.T, what string, got, wanted *disk.Disk) {
	t.Helper()
	if !slices.Equal(got.Names(), wanted.Names()) {
		t.Fatalf("%s: files %q, not %q", what, got.Names(), wanted.Names())
	}
	for _, name := range wanted.Names() {
		if read(got, name) != read(wanted, name) {
			t.Fatalf("%s: the file %s is another one", what, name)
		}
	}
}

// torn is choices taken at random: lost, made, torn anywhere.
func torn(r *rand.Rand, n int) []int {
	choices := make([]int, n)
	for i := range choices {
		choices[i] = []int{0, 1, 2 + r.Intn(63)}[r.Intn(3)]
	}
	return choices
}
