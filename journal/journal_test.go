package journal_test

import (
	"math"
	"math/rand"
	"slices"
	"strings"
	"testing"

	"bureau/api"
	"bureau/disk"
	"bureau/journal"
)

const plenty = 1 << 24

// want fails the test unless a call answered that error.
func want(t *testing.T, what string, got, wanted api.Errno) {
	t.Helper()
	if got != wanted {
		t.Errorf("%s: %v, not %v", what, got, wanted)
	}
}

// filled is a page of one byte, but for its first and its last one: what is taken from a wrong place is to be seen.
func filled(b byte) api.Page {
	var p api.Page
	for i := range p {
		p[i] = b
	}
	p[0], p[255] = b+1, b+2
	return p
}

// at is changed pages, with bytes of their own, by their numbers.
func at(b byte, numbers ...int) []api.PageAt {
	var pages []api.PageAt
	for _, n := range numbers {
		pages = append(pages, api.PageAt{N: n, P: filled(b + byte(n))})
	}
	return pages
}

// upTo is the numbers from one to another.
func upTo(from, to int) []int {
	var numbers []int
	for n := from; n <= to; n++ {
		numbers = append(numbers, n)
	}
	return numbers
}

// store lays a file down and syncs it.
func store(d *disk.Disk, name, bytes string) {
	d.Truncate(name, 0)
	d.Write(name, 0, bytes)
	d.Sync(name)
}

// with is a disk with room whose db has those pages, synced.
func with(pages ...api.Page) *disk.Disk {
	d := disk.New(plenty)
	store(d, "db", bytesOf(pages))
	return d
}

// some is n pages.
func some(n int) []api.Page {
	var pages []api.Page
	for i := range n {
		pages = append(pages, filled(byte(3*i)))
	}
	return pages
}

func bytesOf(pages []api.Page) string {
	var s strings.Builder
	for _, p := range pages {
		s.Write(p[:])
	}
	return s.String()
}

// after is what a commit makes of pages, as lists.
func after(pages []api.Page, count int, changed []api.PageAt) []api.Page {
	made := make([]api.Page, count)
	copy(made, pages)
	for _, p := range changed {
		made[p.N-1] = p.P
	}
	return made
}

// read is the file's bytes.
func read(d *disk.Disk, name string) string {
	s, _ := d.Read(name, 0, math.MaxInt)
	return s
}

// told is the database as Count and Page tell it.
func told(t *testing.T, d *disk.Disk) []api.Page {
	t.Helper()
	var pages []api.Page
	for n := range journal.Count(d) {
		p, e := journal.Page(d, n+1)
		want(t, "Page", e, api.OK)
		pages = append(pages, p)
	}
	return pages
}

// holds fails the test unless the database is just these pages and the journal is not hot.
func holds(t *testing.T, what string, d *disk.Disk, pages []api.Page) {
	t.Helper()
	if got := told(t, d); !slices.Equal(got, pages) {
		t.Errorf("%s: %d pages, not the %d that are to be", what, len(got), len(pages))
	}
	if journal.Hot(d) {
		t.Errorf("%s: a hot journal", what)
	}
}

// noDisks is what stands for a disk that is not there.
func noDisks() []*disk.Disk { return []*disk.Disk{nil, {}} }

func TestP61Count(t *testing.T) {
	for _, c := range []struct{ bytes, count int }{
		{0, 0}, {1, 0}, {255, 0}, {256, 1}, {257, 1}, {511, 1}, {512, 2}, {1000, 3}, {api.MaxFile - 1, 4095}, {api.MaxFile, 4096},
	} {
		d := disk.New(plenty)
		store(d, "journal", "a journal of some bytes")
		store(d, "db", strings.Repeat("x", c.bytes))
		if n := journal.Count(d); n != c.count {
			t.Errorf("of %d bytes: %d", c.bytes, n)
		}
		d.Crash()
		if n := journal.Count(d); n != 0 {
			t.Errorf("of a disk that is down: %d", n)
		}
	}
	for _, d := range noDisks() {
		if n := journal.Count(d); n != 0 {
			t.Errorf("of no disk: %d", n)
		}
	}
}

func TestP61Page(t *testing.T) {
	pages := some(3)
	d := with(pages...)
	d.Write("db", 3*256, strings.Repeat("y", 255)) // no whole page
	for n := -2; n <= 6; n++ {
		p, e := journal.Page(d, n)
		if n >= 1 && n <= 3 {
			want(t, "a page", e, api.OK)
			if p != pages[n-1] {
				t.Errorf("page %d: % x", n, p)
			}
		} else if e != api.ErrNone || p != (api.Page{}) {
			t.Errorf("page %d: %v % x", n, e, p)
		}
	}
	d.Write("db", 4*256-1, "y")
	if p, e := journal.Page(d, 4); e != api.OK || string(p[:]) != strings.Repeat("y", 256) {
		t.Errorf("the page that is whole now: %v % x", e, p)
	}
	for _, n := range []int{math.MinInt, math.MaxInt, math.MaxInt/256 + 2, math.MinInt / 256} {
		if p, e := journal.Page(d, n); e != api.ErrNone || p != (api.Page{}) {
			t.Errorf("page %d: %v % x", n, e, p)
		}
	}
	if steps := d.Steps(); steps != 5 {
		t.Errorf("%d steps: Page made some", steps)
	}
	d.Crash()
	for _, n := range []int{-1, 0, 1, 9} {
		if p, e := journal.Page(d, n); e != api.ErrOver || p != (api.Page{}) {
			t.Errorf("page %d of a disk that is down: %v % x", n, e, p)
		}
		for _, none := range noDisks() {
			if p, e := journal.Page(none, n); e != api.ErrNil || p != (api.Page{}) {
				t.Errorf("page %d of no disk: %v % x", n, e, p)
			}
		}
	}
}

func TestP61MostPages(t *testing.T) {
	d := disk.New(plenty)
	store(d, "db", strings.Repeat("\x00", api.MaxFile-256)+bytesOf(some(1)))
	if p, e := journal.Page(d, 4096); e != api.OK || p != filled(0) {
		t.Errorf("the last page that may be: %v % x", e, p)
	}
	if _, e := journal.Page(d, 4097); e != api.ErrNone {
		t.Errorf("one behind it: %v", e)
	}
}

func TestP62Arguments(t *testing.T) {
	for _, c := range []struct {
		old, count int
		numbers    []int
		e          api.Errno
	}{
		{0, 0, nil, api.OK},
		{0, 1, []int{1}, api.OK},
		{0, 1, nil, api.ErrArg},
		{0, 0, []int{1}, api.ErrArg},
		{0, 2, []int{1}, api.ErrArg},
		{0, 2, []int{2}, api.ErrArg},
		{0, 2, []int{1, 2}, api.OK},
		{0, 2, []int{2, 1}, api.ErrArg},
		{3, 3, nil, api.OK},
		{3, 3, []int{1, 2, 3}, api.OK},
		{3, 3, []int{1, 3}, api.OK},
		{3, 3, []int{3, 1}, api.ErrArg},
		{3, 3, []int{2, 2}, api.ErrArg},
		{3, 3, []int{0}, api.ErrArg},
		{3, 3, []int{0, 1}, api.ErrArg},
		{3, 3, []int{-1, 1}, api.ErrArg},
		{3, 3, []int{math.MinInt}, api.ErrArg},
		{3, 3, []int{4}, api.ErrArg},
		{3, 3, []int{1, math.MaxInt}, api.ErrArg},
		{3, 2, []int{3}, api.ErrArg},
		{3, 2, []int{1, 2}, api.OK},
		{3, 2, nil, api.OK},
		{3, 0, nil, api.OK},
		{3, 0, []int{1}, api.ErrArg},
		{3, 6, []int{4, 5, 6}, api.OK},
		{3, 6, []int{1, 4, 5, 6}, api.OK},
		{3, 6, []int{4, 6}, api.ErrArg},
		{3, 6, []int{5, 6}, api.ErrArg},
		{3, 6, []int{4, 5}, api.ErrArg},
		{3, 6, []int{1, 2, 3}, api.ErrArg},
		{3, 6, []int{4, 5, 6, 7}, api.ErrArg},
		{3, 6, []int{4, 5, 5}, api.ErrArg},
		{3, -1, nil, api.ErrArg},
		{3, math.MinInt, nil, api.ErrArg},
		{3, math.MaxInt, nil, api.ErrArg},
		{3, 4097, upTo(1, 4097), api.ErrArg},
		{3, 4096, upTo(4, 4096), api.OK},
		{3, 4096, upTo(4, 4095), api.ErrArg},
		{3, 4096, upTo(5, 4096), api.ErrArg},
		{4096, 4096, []int{1, 4096}, api.OK},
		{4096, 4097, []int{4097}, api.ErrArg},
		{4096, 4095, nil, api.OK},
	} {
		pages := some(c.old)
		d := with(pages...)
		steps := d.Steps()
		changed := at(100, c.numbers...)
		e := journal.Commit(d, c.count, changed)
		if e != c.e {
			t.Errorf("of %d pages to %d by %v: %v", c.old, c.count, c.numbers, e)
		}
		if e == api.OK {
			pages = after(pages, c.count, changed)
		} else if d.Steps() != steps {
			t.Errorf("of %d pages to %d: refused, and steps were made", c.old, c.count)
		}
		holds(t, "behind Commit", d, pages)
	}
}

// A part of a page at the end is none: its page is a new one, and is cut off where it is none still.
func TestP62PartOfAPage(t *testing.T) {
	for _, more := range []int{1, 63, 64, 255} {
		d := with(some(2)...)
		d.Write("db", 512, strings.Repeat("y", more))
		want(t, "a count that counts the part", journal.Commit(d, 3, nil), api.ErrArg)
		want(t, "the page of the part", journal.Commit(d, 3, at(7, 3)), api.OK)
		holds(t, "with it", d, after(some(2), 3, at(7, 3)))
		d.Write("db", 768, strings.Repeat("y", more))
		want(t, "no change", journal.Commit(d, 3, nil), api.OK)
		if n := d.Len("db"); n != 768 {
			t.Errorf("db has %d bytes", n)
		}
		holds(t, "without it", d, after(some(2), 3, at(7, 3)))
	}
}

// The errors come in their order: of two that apply it is the one that is named first.
func TestP62ErrorsInOrder(t *testing.T) {
	for _, d := range noDisks() {
		want(t, "no disk", journal.Commit(d, 0, nil), api.ErrNil)
		want(t, "no disk, wrong pages", journal.Commit(d, -1, at(0, 9)), api.ErrNil)
	}
	d := with(some(2)...)
	store(d, "journal", hotHead(2, 2)+"bad") // its record is not there
	d.SetRoom(0)
	before := d.Steps()
	want(t, "wrong ahead of busy", journal.Commit(d, -1, nil), api.ErrArg)
	want(t, "wrong ahead of busy", journal.Commit(d, 2, at(0, 3)), api.ErrArg)
	want(t, "busy ahead of bad and full", journal.Commit(d, 3, at(0, 3)), api.ErrBusy)
	want(t, "busy without a change", journal.Commit(d, 2, nil), api.ErrBusy)
	if d.Steps() != before || !journal.Hot(d) || read(d, "db") != bytesOf(some(2)) {
		t.Error("what is refused changes nothing")
	}
	d.Crash()
	want(t, "down ahead of wrong", journal.Commit(d, -1, nil), api.ErrOver)
	want(t, "down ahead of busy", journal.Commit(d, 2, nil), api.ErrOver)
}

func TestP62CrashIsOver(t *testing.T) {
	d := with(some(1)...)
	d.SetRoom(256)
	want(t, "no room", journal.Commit(d, 1, at(9, 1)), api.ErrFull)
	d.SetRoom(256 + 64)
	d.CrashIn(1)
	want(t, "a crash ahead of no room", journal.Commit(d, 1, at(9, 1)), api.ErrOver)
	if !d.Down() {
		t.Error("the disk is not down")
	}
}

// Commits one behind the other, held against a list of pages; what is handed in stays as it is, its spare room too.
func TestP62AgainstLists(t *testing.T) {
	r := rand.New(rand.NewSource(62))
	d := disk.New(plenty)
	var pages []api.Page
	for range 2000 {
		count := max(0, len(pages)+r.Intn(7)-3)
		changed := change(r, len(pages), count)
		spare := append(slices.Clone(changed), at(1, 1, 2)...)
		handed := slices.Clone(spare)[:len(changed)]
		want(t, "Commit", journal.Commit(d, count, handed), api.OK)
		if !slices.Equal(handed[:len(spare)], spare) {
			t.Fatal("what was handed in has changed")
		}
		pages = after(pages, count, changed)
		holds(t, "behind Commit", d, pages)
		if read(d, "db") != bytesOf(pages) || d.Pending() != 0 || !slices.Equal(journalHead(d), []uint32{0, 0, 0, 0}) {
			t.Fatal("what is there behind Commit is not all, or not synced")
		}
	}
}

// change is pages taken at random by which a database of old pages may become one of count.
func change(r *rand.Rand, old, count int) []api.PageAt {
	var pages []api.PageAt
	for n := 1; n <= count; n++ {
		if n > old || r.Intn(3) == 0 {
			pages = append(pages, api.PageAt{N: n, P: filled(byte(r.Intn(256)))})
		}
	}
	return pages
}

// The greatest journal that may be, and one record more.
func TestP62GreatestJournal(t *testing.T) {
	const most = (api.MaxFile - 64) / 320
	pages := some(4096)
	d := with(pages...)
	changed := at(100, upTo(1, most)...)
	want(t, "as many records as there may be", journal.Commit(d, 4096, changed), api.OK)
	if n := d.Len("journal"); n != 64+320*most {
		t.Errorf("a journal of %d bytes", n)
	}
	pages = after(pages, 4096, changed)
	holds(t, "behind it", d, pages)
	for _, c := range []struct {
		count   int
		changed []api.PageAt
	}{
		{4096, at(50, upTo(800, 800+most)...)},
		{0, nil},
		{4096 - most, at(50, 1)},
	} {
		before := d.Steps()
		want(t, "one more", journal.Commit(d, c.count, c.changed), api.ErrFull)
		if steps := d.Steps() - before; steps != 2+most {
			t.Errorf("%d steps", steps)
		}
		holds(t, "behind one more", d, pages)
		crashing := d.Copy()
		crashing.CrashIn(7)
		want(t, "a crash ahead of it", journal.Commit(crashing, c.count, c.changed), api.ErrOver)
	}
	want(t, "cut off", journal.Commit(d, 4096-most, nil), api.OK)
	holds(t, "behind that", d, pages[:4096-most])
	want(t, "cut off", journal.Commit(d, 0, nil), api.OK)
	holds(t, "behind all", d, nil)
	want(t, "from nothing to all", journal.Commit(d, 4096, at(3, upTo(1, 4096)...)), api.OK)
	holds(t, "behind all", d, after(nil, 4096, at(3, upTo(1, 4096)...)))
}
