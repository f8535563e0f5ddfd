package journal_test

import (
	"math/rand"
	"slices"
	"testing"

	"bureau/api"
	"bureau/disk"
	"bureau/journal"
)

// manyChoices is what may survive of n changes: all lost, all made, each alone, all but each, and some taken at random; all ways of three, where they are few.
func manyChoices(r *rand.Rand, n int) [][]int {
	all := [][]int{nil, slices.Repeat([]int{1}, n)}
	for i := range n {
		alone, butOne := make([]int, n), slices.Repeat([]int{1}, n)
		alone[i], butOne[i] = 2+r.Intn(63), 2+r.Intn(63)
		all = append(all, alone, butOne)
	}
	for range 12 {
		all = append(all, torn(r, n))
	}
	if n > 4 {
		return all
	}
	ways := 1
	for range n {
		ways *= 3
	}
	for way := range ways {
		choices := make([]int, n)
		for i := range choices {
			choices[i] = []int{0, 1, 2 + r.Intn(63)}[way%3]
			way /= 3
		}
		all = append(all, choices)
	}
	return all
}

// everyTear is the choices of one change: lost, made, torn at each of its bytes.
func everyTear() [][]int {
	var all [][]int
	for k := range 65 {
		all = append(all, []int{k})
	}
	return all
}

// recovered starts a disk that is down and takes back what is hot, crashing so often at steps taken at random; then once without a crash.
func recovered(t *testing.T, r *rand.Rand, d *disk.Disk, choices []int, crashes int) {
	t.Helper()
	want(t, "Restart", d.Restart(choices), api.OK)
	for ; crashes > 0; crashes-- {
		d.CrashIn(1 + r.Intn(10))
		if _, e := journal.Recover(d); e != api.OK && e != api.ErrOver {
			t.Fatalf("Recover: %v", e)
		}
		d.Crash()
		want(t, "Restart", d.Restart(torn(r, d.Pending())), api.OK)
	}
	if _, e := journal.Recover(d); e != api.OK {
		t.Fatalf("Recover: %v", e)
	}
}

// firmJobs is the commits of disks of which a crash can take nothing.
func firmJobs() []job {
	return slices.DeleteFunc(jobs(), func(j job) bool { return j.shaky })
}

// Wherever a commit crashes, and whatever survives, also of crashes on the way back, the database is the old one or the new one.
func TestP64Commit(t *testing.T) {
	r := rand.New(rand.NewSource(64))
	for _, j := range firmJobs() {
		old := told(t, j.disk)
		made := after(old, j.count, j.pages)
		ends := map[string]int{}
		for n := 1; ; n++ {
			down := j.disk.Copy()
			down.CrashIn(n)
			e := journal.Commit(down, j.count, j.pages)
			down.Crash()
			choices := manyChoices(r, down.Pending())
			if down.Pending() == 1 {
				choices = append(choices, everyTear()...)
			}
			for i, c := range choices {
				d := down.Copy()
				recovered(t, r, d, c, i%4)
				now := told(t, d)
				isOld, isNew := slices.Equal(now, old), slices.Equal(now, made)
				if !isNew && (e == api.OK || !isOld) || journal.Hot(d) {
					t.Fatalf("%s: a crash at step %d, choices %v: %d pages, neither the old nor the new ones", j.what, n, c, len(now))
				}
				if isOld {
					ends["old"]++
				} else {
					ends["new"]++
				}
				want(t, "the next commit", journal.Commit(d, j.count, at(77, upTo(1, j.count)...)), api.OK)
				holds(t, "behind the next commit", d, after(nil, j.count, at(77, upTo(1, j.count)...)))
			}
			if e == api.OK {
				break
			}
			want(t, j.what, e, api.ErrOver)
		}
		if !slices.Equal(old, made) && (ends["old"] == 0 || ends["new"] == 0) {
			t.Errorf("%s: %v", j.what, ends)
		}
	}
}

// A crash at every step of a recovery, and at every step of the next one: what is there is what the whole one makes.
func TestP64Recovery(t *testing.T) {
	r := rand.New(rand.NewSource(641))
	for _, j := range hots() {
		if j.shaky {
			continue
		}
		whole := j.disk.Copy()
		journal.Recover(whole)
		made := told(t, whole)
		for n := 1; ; n++ {
			down := j.disk.Copy()
			down.CrashIn(n)
			_, e := journal.Recover(down)
			down.Crash()
			for _, c := range manyChoices(r, down.Pending()) {
				again := down.Copy()
				want(t, "Restart", again.Restart(c), api.OK)
				for m := 1; m < 12; m++ {
					d := again.Copy()
					d.CrashIn(m)
					journal.Recover(d)
					d.Crash()
					recovered(t, r, d, torn(r, d.Pending()), m%3)
					holds(t, j.what, d, made)
				}
			}
			if e == api.OK {
				break
			}
			want(t, j.what, e, api.ErrOver)
		}
	}
}

// A commit that a full disk refuses leaves the old pages and no hot journal, whatever crashes later; one that crashes on the way back leaves the old ones, too.
func TestP64Full(t *testing.T) {
	r := rand.New(rand.NewSource(642))
	for _, j := range firmJobs() {
		old := told(t, j.disk)
		made := after(old, j.count, j.pages)
		for _, room := range rooms(j) {
			d := j.disk.Copy()
			d.SetRoom(room)
			e := journal.Commit(d, j.count, j.pages)
			if e == api.OK {
				holds(t, j.what, d, made)
				continue
			}
			want(t, j.what, e, api.ErrFull)
			holds(t, j.what, d, old)
			d.Crash()
			for _, c := range manyChoices(r, min(d.Pending(), 3)) {
				later := d.Copy()
				later.SetRoom(plenty)
				recovered(t, r, later, c, 1)
				holds(t, j.what+", behind a crash", later, old)
				want(t, "with room", journal.Commit(later, j.count, j.pages), api.OK)
				holds(t, "with room", later, made)
			}
			for n := 1; n < 30; n++ {
				d := j.disk.Copy()
				d.SetRoom(room)
				d.CrashIn(n)
				if journal.Commit(d, j.count, j.pages) != api.ErrOver {
					break
				}
				d.SetRoom(plenty)
				recovered(t, r, d, torn(r, d.Pending()), n%3)
				holds(t, j.what+", a crash on a full disk", d, old)
			}
		}
	}
}

// A disk that lives long, with crashes and want of room, held against lists of pages.
func TestP64LongLife(t *testing.T) {
	for seed := range int64(60) {
		r := rand.New(rand.NewSource(seed))
		d := disk.New(plenty)
		var pages []api.Page
		seen := map[api.Errno]int{}
		for range 150 {
			count := max(0, len(pages)+r.Intn(7)-3)
			changed := change(r, len(pages), count)
			d.SetRoom([]int{plenty, d.Len("db") + d.Len("journal") + r.Intn(1500)}[r.Intn(2)])
			d.CrashIn(r.Intn(40))
			e := journal.Commit(d, count, changed)
			seen[e]++
			made := after(pages, count, changed)
			if e == api.OK {
				pages = made
			}
			if d.Down() || r.Intn(4) == 0 {
				d.SetRoom(plenty)
				d.Crash()
				recovered(t, r, d, torn(r, d.Pending()), r.Intn(3))
			}
			d.CrashIn(0)
			if e == api.ErrOver && slices.Equal(told(t, d), made) {
				pages = made
			}
			holds(t, "a long life", d, pages)
		}
		if seen[api.OK] == 0 || seen[api.ErrOver] == 0 || seen[api.ErrFull] == 0 || len(seen) != 3 {
			t.Errorf("seed %d: %v", seed, seen)
		}
	}
}
