package wal_test

import (
	"math"
	"math/rand"
	"strings"
	"testing"

	"bureau/api"
	"bureau/disk"
	"bureau/journal"
	"bureau/wal"
)

// checkpoints is checkpoints of all sorts, up to every mark of their logs.
func checkpoints() []job {
	db := bytesOf(some(4))
	oldHead, newHead := sealed(1, 0, 0, 0), sealed(2, 0, 0, 0)
	frames := fr(1, 5).bytes() + fr(2, 5).bytes()
	var all []job
	for _, j := range []job{
		{what: "no log", disk: disk.New(plenty)},
		{what: "db alone", disk: with(db[:700], "")},
		{what: "a log of 63 bytes, of frames with one more", disk: with(db, oldHead[:63]), shaky: true},
		{what: "a log of a head", disk: with(db, sealed(0, 0, 0, 0))},
		{what: "grows and shrinks", disk: grown()},
		{what: "what is not synced", disk: loose(), shaky: true},
		{what: "no db", disk: with("", whole(fr(1, 0), fr(2, 3), fr(3, 4)))},
		{what: "a page once more", disk: with(db, whole(fr(2, 5), fr(2, 5), fr(2, 5)))},
		{what: "no pages", disk: with(db, whole(fr(0, 5), fr(0, 5)))},
		{what: "shrinks to nothing", disk: with(db, whole(fr(2, 5), fr(0, 1)))},
		{what: "shrinks, its pages cut off", disk: with(db, whole(fr(3, 0), fr(4, 5), fr(1, 2)))},
		{what: "shrinks and grows again", disk: with(db, whole(fr(0, 2), fr(2, 0), fr(3, 4)))},
		{what: "falling numbers", disk: with(db, whole(fr(4, 0), fr(3, 0), fr(1, 0), fr(2, 5)))},
		{what: "a number above the count", disk: with(db, whole(fr(9, 0), fr(6, 5)))},
		{what: "grows without its pages", disk: with(db, whole(fr(5, 0), fr(0, 8)))},
		{what: "grows without a page of which db has a part", disk: with(db[:700], whole(fr(1, 5))), shaky: true},
		{what: "shrinks and grows without its pages", disk: with(db, whole(fr(0, 2), fr(0, 5))), shaky: true},
		{what: "a torn head, the old one", disk: with(db, newHead[:20]+oldHead[20:]+frames)},
		{what: "a torn head, the new one", disk: with(db, newHead[:40]+oldHead[40:]+frames)},
		{what: "frames behind those that count", disk: with(db, oldHead+frames+strings.Repeat("z", 1000))},
	} {
		marks, _ := wal.Marks(j.disk)
		for _, m := range marks {
			one := j
			one.mark = m
			all = append(all, one)
		}
	}
	return all
}

// The steps of a checkpoint are those of the chapter: wherever it crashes, the disk is the one on which they were made by hand.
func TestP74Steps(t *testing.T) {
	r := rand.New(rand.NewSource(74))
	for _, j := range checkpoints() {
		for n := 0; ; n++ {
			got, wanted := j.disk.Copy(), j.disk.Copy()
			got.CrashIn(n)
			wanted.CrashIn(n)
			wantedErr := play(wanted, homing(wanted, j.mark))
			e := wal.Checkpoint(got, j.mark)
			want(t, j.what, e, wantedErr)
			sameDisks(t, j.what, r, got, wanted)
			if n > 0 && e == api.OK {
				break
			}
		}
	}
}

// Each Write is of a whole head or page.
func TestP74HowManySteps(t *testing.T) {
	for _, c := range []struct {
		mark, steps int
	}{
		{0, 0},
		{2, 2 + 2 + 2},
		{3, 2 + 1 + 2},
		{7, 2 + 5 + 2 + 2},
	} {
		d := grown()
		before := d.Steps()
		want(t, "Checkpoint", wal.Checkpoint(d, c.mark), api.OK)
		if steps := d.Steps() - before; steps != c.steps || d.Pending() != 0 {
			t.Errorf("up to %d: %d steps, %d changes not synced", c.mark, steps, d.Pending())
		}
	}
}

func TestP74NoSuchMark(t *testing.T) {
	d := grown()
	d.SetRoom(0)
	d.CrashIn(1)
	before := d.Steps()
	for _, mark := range []int{math.MinInt, -1, 1, 4, 5, 6, 8, math.MaxInt} {
		want(t, "Checkpoint", wal.Checkpoint(d, mark), api.ErrNone)
	}
	if d.Down() || d.Steps() != before {
		t.Error("no such mark, and steps were made")
	}
	want(t, "a crash", wal.Checkpoint(d, 2), api.ErrOver)
	want(t, "down ahead of no such mark", wal.Checkpoint(d, 1), api.ErrOver)
}

// Of the mark 0 nothing is done, whatever is there and however little room.
func TestP74MarkNought(t *testing.T) {
	for _, j := range checkpoints() {
		d, same := j.disk.Copy(), j.disk.Copy()
		for _, d := range []*disk.Disk{d, same} {
			d.SetRoom(0)
			d.CrashIn(1)
		}
		want(t, j.what, wal.Checkpoint(d, 0), api.OK)
		sameDisks(t, j.what, rand.New(rand.NewSource(0)), d, same)
	}
}

// What comes home is the database at the mark, at that one and later ones nothing is changed; up to the last one the log is empty.
func TestP74ComesHome(t *testing.T) {
	for _, j := range checkpoints() {
		if j.shaky {
			continue
		}
		d := j.disk.Copy()
		h := historyOf(t, d)
		want(t, j.what, wal.Checkpoint(d, j.mark), api.OK)
		home := h[j.mark]
		if j.mark == h.last() {
			h = history{}
		}
		h = h.and(0, home)
		tells(t, j.what, d, h, min(j.mark, h.last()))
		tells(t, j.what, d, historyOf(t, d), 0)
		if j.mark == 0 {
			continue
		}
		if read(d, "db") != bytesOf(home) || journal.Count(d) != len(home) {
			t.Errorf("%s: up to %d: what came home", j.what, j.mark)
		}
		if n := d.Len("wal"); n != j.disk.Len("wal") {
			t.Errorf("%s: a log of %d bytes", j.what, n)
		}
		again := d.Copy()
		if h.last() == 0 {
			want(t, j.what+": a mark that is gone", wal.Checkpoint(d, j.mark), api.ErrNone)
		} else {
			want(t, j.what+": again", wal.Checkpoint(d, j.mark), api.OK)
		}
		sameFiles(t, j.what, d, again)
	}
}

// A disk that is full ends a checkpoint where it is; it may be done anew.
func TestP74Full(t *testing.T) {
	r := rand.New(rand.NewSource(741))
	fulls := 0
	for _, j := range checkpoints() {
		h := historyOf(t, j.disk)
		for _, room := range rooms(j) {
			for n := 0; ; n++ {
				got, wanted := j.disk.Copy(), j.disk.Copy()
				for _, d := range []*disk.Disk{got, wanted} {
					d.SetRoom(room)
					d.CrashIn(n)
				}
				wantedErr := play(wanted, homing(wanted, j.mark))
				e := wal.Checkpoint(got, j.mark)
				want(t, j.what, e, wantedErr)
				if n%3 == 0 || e == api.ErrFull {
					sameDisks(t, j.what, r, got, wanted)
				}
				if e == api.ErrFull && !j.shaky {
					fulls++
					tells(t, j.what+", full", got, h, j.mark)
					got.SetRoom(plenty)
					got.CrashIn(0)
					want(t, j.what+": done anew", wal.Checkpoint(got, j.mark), api.OK)
					if read(got, "db") != bytesOf(h[j.mark]) {
						t.Errorf("%s: what came home anew", j.what)
					}
				}
				if n > 0 && e != api.ErrOver {
					break
				}
			}
		}
	}
	if fulls < 200 {
		t.Errorf("so few full disks: %d", fulls)
	}
}

// The greatest database grows home in pieces, as one log has too few frames for it.
func TestP74MostPages(t *testing.T) {
	d := disk.New(plenty)
	var pages []api.Page
	for _, count := range []int{3000, 4096, 1, 4000} {
		changed := at(byte(count), upTo(min(len(pages), count)+1, count)...)
		if count == 4000 {
			changed = changed[:3000]
			count = 3001
		}
		m, e := wal.Commit(d, count, changed)
		want(t, "Commit", e, api.OK)
		want(t, "Checkpoint", wal.Checkpoint(d, m), api.OK)
		pages = after(pages, count, changed)
		if n, e := wal.Count(d, 0); n != count || e != api.OK || read(d, "db") != bytesOf(pages) {
			t.Errorf("%d pages: %d %v", count, n, e)
		}
	}
}
