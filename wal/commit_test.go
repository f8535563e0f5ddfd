package wal_test

import (
	"math"
	"math/rand"
	"slices"
	"strings"
	"testing"

	"bureau/api"
	"bureau/disk"
	"bureau/wal"
)

// job is a disk and what is to be done with it: a commit, or a checkpoint up to a mark. Of one that is shaky a crash may take what was there ahead of it, or may bring up a head that was too short to count, or its log grows without its pages, as none does that commits made: there the steps alone are promised.
type job struct {
	what  string
	disk  *disk.Disk
	count int
	pages []api.PageAt
	mark  int
	shaky bool
}

// grown is a disk whose log has commits that grow, shrink to two pages and grow again; its db has three whole pages and a part of one.
func grown() *disk.Disk {
	d := with(bytesOf(some(3))+"a part of a page", "")
	wal.Commit(d, 4, at(10, 2, 4))
	wal.Commit(d, 2, nil)
	wal.Commit(d, 5, at(20, 1, 3, 4, 5))
	return d
}

// loose is a disk with changes that are not synced.
func loose() *disk.Disk {
	d := grown()
	d.Write("db", 100, "not synced")
	d.Write("wal", 3000, "not synced")
	return d
}

// commits is commits of all sorts: of logs that are whole or not, on databases that grow, shrink or stay.
func commits() []job {
	db := bytesOf(some(4))
	oldHead, newHead := sealed(1, 0, 0, 0), sealed(2, 0, 0, 0)
	frames := fr(1, 5).bytes() + fr(2, 5).bytes()
	return []job{
		{what: "the first pages", disk: disk.New(plenty), count: 2, pages: at(50, 1, 2)},
		{what: "nothing of nothing", disk: disk.New(plenty), count: 0},
		{what: "one page of db", disk: with(db, ""), count: 4, pages: at(50, 2)},
		{what: "all pages of db", disk: with(db, ""), count: 4, pages: at(50, 1, 2, 3, 4)},
		{what: "no page of db", disk: with(db, ""), count: 4},
		{what: "db shrinks", disk: with(db, ""), count: 2},
		{what: "db grows", disk: with(db, ""), count: 6, pages: at(50, 5, 6)},
		{what: "a part of a page becomes one", disk: with(db[:700], ""), count: 3, pages: at(50, 3)},
		{what: "stays", disk: grown(), count: 5, pages: at(50, 1, 5)},
		{what: "no page", disk: grown(), count: 5},
		{what: "shrinks", disk: grown(), count: 3},
		{what: "shrinks and changes", disk: grown(), count: 3, pages: at(50, 3)},
		{what: "shrinks to nothing", disk: grown(), count: 0},
		{what: "grows", disk: grown(), count: 7, pages: at(50, 6, 7)},
		{what: "grows and changes", disk: grown(), count: 7, pages: at(50, 1, 3, 6, 7)},
		{what: "what is not synced", disk: loose(), count: 6, pages: at(50, 2, 6), shaky: true},
		{what: "a log of a byte", disk: with(db, "\x01"), count: 3, pages: at(50, 1)},
		{what: "a log of 63 bytes", disk: with(db, sealed(0, 0, 0, 0)[:63]), count: 3, pages: at(50, 1)},
		{what: "a log of 63 bytes, of frames with one more", disk: with(db, oldHead[:63]), count: 3, pages: at(50, 1), shaky: true},
		{what: "a log of 64 bytes", disk: with(db, sealed(0, 0, 0, 0)), count: 3, pages: at(50, 1)},
		{what: "a torn head, the old one", disk: with(db, newHead[:20]+oldHead[20:]+frames), count: 4, pages: at(50, 1)},
		{what: "a torn head, the new one", disk: with(db, newHead[:40]+oldHead[40:]+frames), count: 4, pages: at(50, 1)},
		{what: "frames behind those that count", disk: with(db, oldHead+frames+strings.Repeat("z", 1000)), count: 5, pages: at(50, 4, 5)},
		{what: "no frame counts", disk: with(db, sealed(0, 0, 0, 0)+frames+frames), count: 5, pages: at(50, 4, 5)},
	}
}

func TestP73Arguments(t *testing.T) {
	for _, c := range []struct {
		old, count int
		numbers    []int
		e          api.Errno
	}{
		{0, 0, nil, api.OK},
		{0, 1, []int{1}, api.OK},
		{0, 1, nil, api.ErrArg},
		{0, 0, []int{1}, api.ErrArg},
		{0, 2, []int{1}, api.ErrArg},
		{0, 2, []int{2}, api.ErrArg},
		{0, 2, []int{2, 1}, api.ErrArg},
		{3, 3, nil, api.OK},
		{3, 3, []int{1, 2, 3}, api.OK},
		{3, 3, []int{1, 3}, api.OK},
		{3, 3, []int{3, 1}, api.ErrArg},
		{3, 3, []int{2, 2}, api.ErrArg},
		{3, 3, []int{0}, api.ErrArg},
		{3, 3, []int{0, 1}, api.ErrArg},
		{3, 3, []int{-1, 1}, api.ErrArg},
		{3, 3, []int{math.MinInt}, api.ErrArg},
		{3, 3, []int{4}, api.ErrArg},
		{3, 3, []int{1, math.MaxInt}, api.ErrArg},
		{3, 3, []int{1 << 32}, api.ErrArg},
		{3, 2, []int{3}, api.ErrArg},
		{3, 2, []int{1, 2}, api.OK},
		{3, 2, nil, api.OK},
		{3, 0, nil, api.OK},
		{3, 0, []int{1}, api.ErrArg},
		{3, 6, []int{4, 5, 6}, api.OK},
		{3, 6, []int{1, 4, 5, 6}, api.OK},
		{3, 6, []int{4, 6}, api.ErrArg},
		{3, 6, []int{5, 6}, api.ErrArg},
		{3, 6, []int{4, 5}, api.ErrArg},
		{3, 6, []int{1, 2, 3}, api.ErrArg},
		{3, 6, []int{4, 5, 6, 7}, api.ErrArg},
		{3, 6, []int{4, 5, 5}, api.ErrArg},
		{3, -1, nil, api.ErrArg},
		{3, math.MinInt, nil, api.ErrArg},
		{3, math.MaxInt, nil, api.ErrArg},
		{3, 1<<32 - 1, nil, api.ErrArg},
		{3, 4097, upTo(1, 4097), api.ErrArg},
		{3, 4096, upTo(4, 4095), api.ErrArg},
		{3, 4096, upTo(5, 4096), api.ErrArg},
		{3, 4096, upTo(4, 4096), api.ErrFull}, // more than the log may have
		{4000, 4096, upTo(4001, 4096), api.OK},
		{4000, 4097, upTo(4001, 4097), api.ErrArg},
		{4096, 4096, []int{1, 4096}, api.OK},
		{4096, 4097, []int{4097}, api.ErrArg},
		{4096, 4095, nil, api.OK},
	} {
		cut := max(c.old-1, 0)
		for what, d := range map[string]*disk.Disk{
			"by db":                   with(bytesOf(some(c.old)), ""),
			"by the log":              with(bytesOf(some(min(2*c.old, 4096))), whole(fr(1, c.old+1))),
			"by a log that shrinks":   with(bytesOf(some(c.old)), whole(fr(1, c.old+1), fr(0, 4097), fr(1, c.old+1))),
			"by a log that grew":      with(bytesOf(some(cut)), whole(fr(0, cut+1), fr(max(c.old, 1), c.old+1))),
			"by db and frames behind": with(bytesOf(some(c.old)), laid(0, fr(1, 9), fr(1, 9))),
		} {
			h, steps := historyOf(t, d), d.Steps()
			changed := at(100, c.numbers...)
			m, e := wal.Commit(d, c.count, changed)
			if e != c.e {
				t.Errorf("%s, of %d pages to %d by %v: %v", what, c.old, c.count, c.numbers, e)
			}
			if e == api.OK {
				if m != h.last()+max(len(changed), 1) {
					t.Errorf("%s, of %d pages to %d: the mark %d", what, c.old, c.count, m)
				}
				h = h.and(m, after(h[h.last()], c.count, changed))
			} else if m != 0 {
				t.Errorf("the mark %d beside %v", m, e)
			}
			if e == api.ErrArg && d.Steps() != steps {
				t.Errorf("%s, of %d pages to %d: refused, and steps were made", what, c.old, c.count)
			}
			if c.old < 100 && c.count < 100 || e == api.OK {
				tells(t, what, d, h, h.last()-1)
			}
		}
	}
}

// The errors come in their order: of two that apply it is the one that is named first.
func TestP73ErrorsInOrder(t *testing.T) {
	d := grown()
	d.SetRoom(0)
	steps := d.Steps()
	commit := func(count int, pages []api.PageAt) api.Errno {
		m, e := wal.Commit(d, count, pages)
		if m != 0 {
			t.Errorf("the mark %d beside %v", m, e)
		}
		return e
	}
	want(t, "wrong ahead of full", commit(-1, nil), api.ErrArg)
	want(t, "wrong ahead of full", commit(5, at(0, 6)), api.ErrArg)
	want(t, "wrong ahead of full", commit(4096, blanks(6, 4095)), api.ErrArg)
	d.CrashIn(1)
	want(t, "wrong ahead of a crash", commit(6, nil), api.ErrArg)
	if d.Down() || d.Steps() != steps {
		t.Error("what is wrong makes steps")
	}
	want(t, "a crash", commit(5, nil), api.ErrOver)
	want(t, "down ahead of wrong", commit(6, nil), api.ErrOver)
}

// blanks is pages of zeros, by their numbers.
func blanks(from, to int) []api.PageAt {
	var pages []api.PageAt
	for _, n := range upTo(from, to) {
		pages = append(pages, api.PageAt{N: n})
	}
	return pages
}

// The steps of a commit are those of the chapter: wherever it crashes, the disk is the one on which they were made by hand.
func TestP73Steps(t *testing.T) {
	r := rand.New(rand.NewSource(73))
	for _, j := range commits() {
		for n := 0; ; n++ {
			got, wanted := j.disk.Copy(), j.disk.Copy()
			got.CrashIn(n)
			wanted.CrashIn(n)
			frames, _ := readByHand(read(j.disk, "wal"))
			mark, wantedErr := len(frames)+max(len(j.pages), 1), play(wanted, committing(wanted, j.count, j.pages))
			if wantedErr != api.OK {
				mark = 0
			}
			m, e := wal.Commit(got, j.count, j.pages)
			if m != mark || e != wantedErr {
				t.Fatalf("%s: %v %v, not %v %v", j.what, m, e, mark, wantedErr)
			}
			sameDisks(t, j.what, r, got, wanted)
			if n > 0 && e == api.OK {
				break
			}
		}
	}
}

// Each Write is of a whole head or frame: so many steps has a commit of some pages.
func TestP73HowManySteps(t *testing.T) {
	for pages, wanted := range []int{2 + 1 + 1 + 2, 2 + 1 + 1 + 2, 2 + 2 + 1 + 2, 2 + 3 + 1 + 2} {
		for _, d := range []*disk.Disk{with(bytesOf(some(5)), ""), grown()} {
			before := d.Steps()
			_, e := wal.Commit(d, 5, at(9, upTo(1, pages)...))
			if steps := d.Steps() - before; steps != wanted || e != api.OK || d.Pending() != 0 {
				t.Errorf("%d pages: %d steps, %v, %d changes not synced", pages, steps, e, d.Pending())
			}
		}
	}
}

// rooms is how much room a disk may have so that some steps are refused, and those that need no more.
func rooms(j job) []int {
	used := 0
	for _, name := range j.disk.Names() {
		used += j.disk.Len(name)
	}
	var rooms []int
	for more := 0; more <= 64+320*5; more += 32 {
		rooms = append(rooms, used+more-1, used+more)
	}
	return append(rooms, 0, used/2)
}

// A disk that is full ends a commit at the step that is refused, whatever step crashes; no more frames count then.
func TestP73FullSteps(t *testing.T) {
	r := rand.New(rand.NewSource(731))
	fulls := 0
	for _, j := range commits() {
		h := historyOf(t, j.disk)
		for _, room := range rooms(j) {
			for n := 0; ; n++ {
				got, wanted := j.disk.Copy(), j.disk.Copy()
				for _, d := range []*disk.Disk{got, wanted} {
					d.SetRoom(room)
					d.CrashIn(n)
				}
				wantedErr := play(wanted, committing(wanted, j.count, j.pages))
				m, e := wal.Commit(got, j.count, j.pages)
				want(t, j.what, e, wantedErr)
				if e == api.ErrFull {
					fulls++
					tells(t, j.what+", full", got, h, 0)
					if m != 0 {
						t.Errorf("%s: full, and a mark %d", j.what, m)
					}
				}
				if n%3 == 0 || e == api.ErrFull {
					sameDisks(t, j.what, r, got, wanted)
				}
				if n > 0 && e != api.ErrOver {
					break
				}
			}
		}
	}
	if fulls < 500 {
		t.Errorf("so few full disks: %d", fulls)
	}
}

// What was refused for want of room is done when there is some.
func TestP73FullThenRoom(t *testing.T) {
	for _, j := range commits() {
		d := j.disk.Copy()
		h := historyOf(t, d)
		for room := 0; ; room += 32 {
			d.SetRoom(room)
			m, e := wal.Commit(d, j.count, j.pages)
			if e == api.OK {
				tells(t, j.what, d, h.and(m, after(h[h.last()], j.count, j.pages)), 0)
				break
			}
			want(t, j.what, e, api.ErrFull)
			tells(t, j.what, d, h, 0)
		}
	}
}

// change is pages taken at random by which a database of old pages may become one of count.
func change(r *rand.Rand, old, count int) []api.PageAt {
	var pages []api.PageAt
	for n := 1; n <= count; n++ {
		if n > old || r.Intn(3) == 0 {
			pages = append(pages, api.PageAt{N: n, P: filled(byte(r.Intn(256)))})
		}
	}
	return pages
}

// Commits one behind the other, held against lists of pages at all marks; what is handed in stays as it is, its spare room too.
func TestP73AgainstLists(t *testing.T) {
	for seed := range int64(8) {
		r := rand.New(rand.NewSource(seed))
		d := with(bytesOf(some(int(seed)))[:256*seed], "")
		h := history{0: some(int(seed))}
		for i := range 40 {
			old := h[h.last()]
			count := max(0, len(old)+r.Intn(7)-3)
			changed := change(r, len(old), count)
			spare := append(slices.Clone(changed), at(1, 1, 2)...)
			handed := slices.Clone(spare)[:len(changed)]
			m, e := wal.Commit(d, count, handed)
			want(t, "Commit", e, api.OK)
			if !slices.Equal(handed[:len(spare)], spare) {
				t.Fatal("what was handed in has changed")
			}
			h = h.and(m, after(old, count, changed))
			if i%4 == 0 {
				tells(t, "behind Commit", d, h, 0)
			}
			if d.Pending() != 0 || d.Len("wal") != 64+320*m || read(d, "db") != bytesOf(h[0]) {
				t.Fatal("what is there behind Commit is not synced, or more than it is to be")
			}
		}
	}
}

// What a commit was given may be changed behind it.
func TestP73NotKept(t *testing.T) {
	d := disk.New(plenty)
	pages := at(1, 1)
	wal.Commit(d, 1, pages)
	pages[0].P = filled(77)
	tells(t, "behind it", d, history{0: nil, 1: {filled(2)}}, 0)
}

// The greatest log that may be, and one frame more.
func TestP73GreatestLog(t *testing.T) {
	const most = (api.MaxFile - 64) / 320
	pages := some(4096)
	d := with(bytesOf(pages), "")
	before := d.Steps()
	_, e := wal.Commit(d, 4096, blanks(1, most+1))
	want(t, "one more at once", e, api.ErrFull)
	if steps := d.Steps() - before; steps != 2+most {
		t.Errorf("%d steps", steps)
	}
	tells(t, "behind that", d, history{0: pages}, 1)
	m, e := wal.Commit(d, 4096, blanks(1, most-1))
	if m != most-1 || e != api.OK {
		t.Errorf("nearly as many frames as there may be: %d %v", m, e)
	}
	for _, c := range []struct{ count, frames int }{{4096, 2}, {4096, 1}, {4096, 1}, {4095, 0}, {0, 0}} {
		old, _ := wal.Mark(d)
		before := d.Steps()
		m, e := wal.Commit(d, c.count, blanks(1, c.frames))
		made := d.Steps() - before
		if fits := old+max(c.frames, 1) <= most; fits && (m != most || e != api.OK) {
			t.Errorf("the last frame: %d %v", m, e)
		} else if !fits && (m != 0 || e != api.ErrFull || made != 2+most-old) {
			t.Errorf("one more: %d %v, %d steps", m, e, made)
		}
		d.SetRoom(plenty)
	}
	if n := d.Len("wal"); n != 64+320*most {
		t.Errorf("a log of %d bytes", n)
	}
	crashing := d.Copy()
	crashing.CrashIn(2)
	if _, e := wal.Commit(crashing, 0, nil); e != api.ErrOver {
		t.Errorf("a crash ahead of it: %v", e)
	}
	want(t, "Checkpoint", wal.Checkpoint(d, most), api.OK)
	made := after(pages, 4096, blanks(1, most-1))
	tells(t, "at home", d, history{0: made}, 1)
	if read(d, "db") != bytesOf(made) {
		t.Error("what came home")
	}
	if m, e := wal.Commit(d, 0, nil); m != 1 || e != api.OK {
		t.Errorf("the log from its beginning: %d %v", m, e)
	}
}
