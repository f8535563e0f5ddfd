package wal_test

import (
	"math/rand"
	"slices"
	"testing"

	"bureau/api"
	"bureau/disk"
	"bureau/wal"
)

// manyChoices is what may survive of n changes: all lost, all made, each alone, all but each, and some taken at random; of one change every tear; all ways of three, where they are few.
func manyChoices(r *rand.Rand, n int) [][]int {
	all := [][]int{nil, slices.Repeat([]int{1}, n)}
	for i := range n {
		alone, butOne := make([]int, n), slices.Repeat([]int{1}, n)
		alone[i], butOne[i] = 2+r.Intn(63), 2+r.Intn(63)
		all = append(all, alone, butOne)
	}
	for range 6 {
		all = append(all, torn(r, n))
	}
	if n == 1 {
		for k := range 65 {
			all = append(all, []int{k})
		}
	}
	if n < 2 || n > 3 {
		return all
	}
	for way := range 27 {
		choices := make([]int, n)
		for i := range choices {
			choices[i] = []int{0, 1, 2 + r.Intn(63)}[way%3]
			way /= 3
		}
		all = append(all, choices)
	}
	return all
}

// firm is the jobs on disks of which a crash can take nothing.
func firm(jobs []job) []job {
	return slices.DeleteFunc(jobs, func(j job) bool { return j.shaky })
}

// oneOf is the one of two histories whose marks the log has; behind it all is told as that one says from a mark on.
func oneOf(t *testing.T, what string, d *disk.Disk, old, made history, from int) history {
	t.Helper()
	h := old
	if marks, _ := wal.Marks(d); !slices.Equal(marks, old.marks()) {
		h = made
	}
	tells(t, what, d, h, min(from, h.last()))
	return h
}

// goesOn makes changes behind a crash, with one more crash at a step of its own on the way: all is told as it should be, from a mark on.
func goesOn(t *testing.T, what string, r *rand.Rand, d *disk.Disk, h history, from int) {
	t.Helper()
	now := h[h.last()]
	count := max(0, len(now)+r.Intn(5)-2)
	pages := change(r, len(now), count)
	d.CrashIn(1 + r.Intn(9))
	m, e := wal.Commit(d, count, pages)
	made := h.and(h.last()+max(len(pages), 1), after(now, count, pages))
	d.Crash()
	want(t, "Restart", d.Restart(torn(r, d.Pending())), api.OK)
	h = oneOf(t, what+", and another one", d, h, made, from)
	if e == api.OK && h.last() != m {
		t.Fatalf("%s: a commit that was answered OK is lost", what)
	}
	now = h[h.last()]
	m, e = wal.Commit(d, len(now)+1, at(200, len(now)+1))
	want(t, what+": the next commit", e, api.OK)
	h = h.and(m, after(now, len(now)+1, at(200, len(now)+1)))
	tells(t, what+": behind the next commit", d, h, min(from, m))
	want(t, what+": Checkpoint", wal.Checkpoint(d, m), api.OK)
	tells(t, what+": at home", d, history{0: h[m]}, 0)
}

// Wherever a commit crashes, and whatever survives, the last mark is the old one or the new one, and at all marks all is as it was; and so on behind it.
func TestP75Commit(t *testing.T) {
	r := rand.New(rand.NewSource(75))
	for _, j := range firm(commits()) {
		old := historyOf(t, j.disk)
		mark := old.last() + max(len(j.pages), 1)
		made := old.and(mark, after(old[old.last()], j.count, j.pages))
		ends := map[int]int{}
		for n := 1; ; n++ {
			down := j.disk.Copy()
			down.CrashIn(n)
			_, e := wal.Commit(down, j.count, j.pages)
			down.Crash()
			for _, c := range manyChoices(r, down.Pending()) {
				d := down.Copy()
				want(t, "Restart", d.Restart(c), api.OK)
				h := oneOf(t, j.what, d, old, made, 0)
				if e == api.OK && h.last() != mark {
					t.Fatalf("%s: answered OK, and lost", j.what)
				}
				ends[h.last()]++
				goesOn(t, j.what, r, d, h, 0)
			}
			if e == api.OK {
				break
			}
			want(t, j.what, e, api.ErrOver)
		}
		if len(ends) != 2 {
			t.Errorf("%s: %v", j.what, ends)
		}
	}
}

// Wherever a checkpoint crashes, and whatever survives, at its mark and at later ones all is as it was; or it was whole, and the log is empty.
func TestP75Checkpoint(t *testing.T) {
	r := rand.New(rand.NewSource(751))
	empty := 0
	for _, j := range firm(checkpoints()) {
		old := historyOf(t, j.disk)
		whole := old
		if j.mark == old.last() {
			whole = history{0: old[j.mark]}
		}
		for n := 1; ; n++ {
			down := j.disk.Copy()
			down.CrashIn(n)
			e := wal.Checkpoint(down, j.mark)
			down.Crash()
			for i, c := range manyChoices(r, down.Pending()) {
				d := down.Copy()
				want(t, "Restart", d.Restart(c), api.OK)
				h := oneOf(t, j.what, d, old, whole, j.mark)
				if h.last() == 0 && j.mark > 0 {
					empty++
				} else if e == api.OK && j.mark > 0 && j.mark == old.last() {
					t.Fatalf("%s: answered OK, and the log is not empty", j.what)
				}
				if h.last() > 0 && i%2 == 0 {
					again(t, j.what, r, d, h, j.mark)
				}
				goesOn(t, j.what, r, d, h, min(j.mark, h.last()))
			}
			if e == api.OK {
				break
			}
			want(t, j.what, e, api.ErrOver)
		}
	}
	if empty == 0 {
		t.Error("no log was ever empty")
	}
}

// again makes a checkpoint anew that crashes again; then it is as it was at its mark and later ones, or the log is empty.
func again(t *testing.T, what string, r *rand.Rand, d *disk.Disk, h history, mark int) {
	t.Helper()
	once := d.Copy()
	once.CrashIn(1 + r.Intn(9))
	wal.Checkpoint(once, mark)
	once.Crash()
	want(t, "Restart", once.Restart(torn(r, once.Pending())), api.OK)
	home := oneOf(t, what+", again", once, h, history{0: h[mark]}, mark)
	if home.last() == 0 && mark != h.last() {
		t.Fatalf("%s: later marks are gone", what)
	}
}

// A commit that a full disk refuses leaves all as it was, whatever crashes later.
func TestP75Full(t *testing.T) {
	r := rand.New(rand.NewSource(752))
	for _, j := range firm(commits()) {
		old := historyOf(t, j.disk)
		for _, room := range rooms(j) {
			d := j.disk.Copy()
			d.SetRoom(room)
			if _, e := wal.Commit(d, j.count, j.pages); e != api.ErrFull {
				want(t, j.what, e, api.OK)
				continue
			}
			d.SetRoom(plenty)
			d.Crash()
			want(t, "Restart", d.Restart(torn(r, d.Pending())), api.OK)
			tells(t, j.what, d, old, 0)
			goesOn(t, j.what, r, d, old, 0)
		}
	}
}

// What is read at each mark while the log grows and is brought home: at the marks from the last one brought home on it stays what it was.
func TestP75Readers(t *testing.T) {
	r := rand.New(rand.NewSource(753))
	for range 12 {
		d := with(bytesOf(some(3)), "")
		h, from := history{0: some(3)}, 0
		for range 40 {
			now := h[h.last()]
			count := max(0, len(now)+r.Intn(5)-2)
			pages := change(r, len(now), count)
			m, e := wal.Commit(d, count, pages)
			want(t, "Commit", e, api.OK)
			h = h.and(m, after(now, count, pages))
			if r.Intn(3) == 0 {
				later := slices.DeleteFunc(h.marks(), func(m int) bool { return m < from })
				from = later[r.Intn(len(later))]
				want(t, "Checkpoint", wal.Checkpoint(d, from), api.OK)
				if from == h.last() {
					h, from = history{0: h[from]}, 0
				}
			}
			tells(t, "while it grows", d, h, from)
		}
	}
}

// A disk that lives long, with crashes and want of room, held against lists of pages.
func TestP75LongLife(t *testing.T) {
	for seed := range int64(25) {
		r := rand.New(rand.NewSource(seed))
		l := &life{t: t, r: r, d: disk.New(plenty), h: history{0: nil}, seen: map[api.Errno]int{}}
		for range 120 {
			l.d.SetRoom([]int{plenty, l.d.Len("db") + l.d.Len("wal") + r.Intn(1500)}[r.Intn(2)])
			l.d.CrashIn(r.Intn(30))
			if r.Intn(3) > 0 {
				l.commit()
			} else {
				l.checkpoint()
			}
			l.d.CrashIn(0)
		}
		if l.seen[api.OK] == 0 || l.seen[api.ErrOver] == 0 || l.seen[api.ErrFull] == 0 || len(l.seen) != 3 {
			t.Errorf("seed %d: %v", seed, l.seen)
		}
	}
}

// life is a disk, what its database is to be at each mark from one on, and the errors that were met.
type life struct {
	t    *testing.T
	r    *rand.Rand
	d    *disk.Disk
	h    history
	from int
	seen map[api.Errno]int
}

// commit changes pages at random.
func (l *life) commit() {
	now := l.h[l.h.last()]
	count := max(0, len(now)+l.r.Intn(7)-3)
	pages := change(l.r, len(now), count)
	m, e := wal.Commit(l.d, count, pages)
	l.seen[e]++
	made := l.h.and(l.h.last()+max(len(pages), 1), after(now, count, pages))
	if e == api.OK && m != made.last() {
		l.t.Fatalf("the mark %d", m)
	}
	l.settle(made, e)
}

// checkpoint brings a mark home that is not below the last one that was to be brought home.
func (l *life) checkpoint() {
	marks := slices.DeleteFunc(l.h.marks(), func(m int) bool { return m < l.from })
	mark := marks[l.r.Intn(len(marks))]
	e := wal.Checkpoint(l.d, mark)
	l.seen[e]++
	made := l.h
	if mark == l.h.last() {
		made = history{0: l.h[mark]}
	}
	l.from = mark
	l.settle(made, e)
}

// settle starts the disk again where it is down, and now and then else, and holds it against what it was or was to be.
func (l *life) settle(made history, e api.Errno) {
	l.t.Helper()
	old := l.h
	if e == api.OK {
		old = made
	}
	if l.d.Down() || l.r.Intn(4) == 0 {
		l.d.SetRoom(plenty)
		l.d.Crash()
		want(l.t, "Restart", l.d.Restart(torn(l.r, l.d.Pending())), api.OK)
	}
	if e == api.ErrFull {
		made = old
	}
	l.h = oneOf(l.t, "a long life", l.d, old, made, l.from)
	l.from = min(l.from, l.h.last())
}
