package store_test

import (
	"math/rand"
	"slices"
	"testing"

	"bureau/api"
	"bureau/disk"
	"bureau/journal"
	"bureau/store"
	"bureau/wal"
)

// talk is a transaction and, beside it, what it is to be, as lists of pages.
type talk struct {
	tx       *store.Tx
	since    int // how many commits there were when it began
	old, now []api.Page
	saves    [][]api.Page
	writes   bool
}

// desk is a store and, beside it, what it is to be: a list of pages, and another disk on which layers 6 and 7 make what it is to make.
type desk struct {
	t          *testing.T
	r          *rand.Rand
	log        bool
	disk, twin *disk.Disk
	store      *store.Store
	db         []api.Page
	commits    int
	marks      map[int]int // by commits: the marks of the log of the twin
	talks      [api.MaxConns]*talk
	ended      []*store.Tx
	met        map[string]int // how often which errors were met
	most       int            // how many transactions there may be at a time
}

func newDesk(t *testing.T, seed int64, log bool) *desk {
	d := disk.New(plenty)
	laid(d, "db", bytesOf(some(1, int(seed%4))))
	k := &desk{t: t, r: rand.New(rand.NewSource(seed)), log: log, disk: d, twin: d.Copy(), db: some(1, int(seed%4)), met: map[string]int{}, most: api.MaxConns}
	k.open()
	return k
}

// open makes a store anew, on both disks; the transactions of the one that was there are over.
func (k *desk) open() {
	k.t.Helper()
	k.store = opened(k.t, k.disk, k.log)
	_, e := journal.Recover(k.twin)
	want(k.t, "Recover", e, api.OK)
	mark, e := wal.Mark(k.twin)
	want(k.t, "Mark", e, api.OK)
	if !k.log {
		want(k.t, "Checkpoint", wal.Checkpoint(k.twin, mark), api.OK)
		mark = 0
	}
	k.marks = map[int]int{k.commits: mark}
	for c, l := range k.talks {
		if l != nil {
			k.ended = append(k.ended, l.tx)
		}
		k.talks[c] = nil
	}
}

// answered fails the test unless that is the error.
func (k *desk) answered(what string, got, wanted api.Errno) {
	k.t.Helper()
	want(k.t, what, got, wanted)
	k.met[what+": "+wanted.Error()]++
}

// writer is the connection that writes, -1 if there is none.
func (k *desk) writer() int {
	return slices.IndexFunc(k.talks[:], func(l *talk) bool { return l != nil && l.writes })
}

// open transactions, as their connections.
func (k *desk) begun() []int {
	var who []int
	for c, l := range k.talks {
		if l != nil {
			who = append(who, c)
		}
	}
	return who
}

func (k *desk) begin() {
	c := k.r.Intn(api.MaxConns+2) - 1
	tx, e := k.store.Begin(c)
	switch {
	case c < 0 || c >= api.MaxConns:
		k.answered("Begin", e, api.ErrArg)
	case k.talks[c] != nil:
		k.answered("Begin", e, api.ErrBusy)
	default:
		k.answered("Begin", e, api.OK)
		k.talks[c] = &talk{tx: tx, since: k.commits, old: k.db, now: k.db}
		return
	}
	if tx != nil {
		k.t.Fatal("a transaction beside an error")
	}
}

func (k *desk) write(c int) {
	l := k.talks[c]
	wanted := api.OK
	switch w := k.writer(); {
	case l.writes:
	case w >= 0:
		wanted = api.ErrBusy
	case k.log && l.since != k.commits:
		wanted = api.ErrStale
	}
	k.answered("Write", l.tx.Write(), wanted)
	l.writes = l.writes || wanted == api.OK
}

func (k *desk) put(c int) {
	l := k.talks[c]
	n := k.r.Intn(len(l.now) + 3)
	p := filled(byte(k.r.Intn(6)))
	wanted := api.OK
	if !l.writes {
		wanted = api.ErrRead
	} else if n < 1 || n > len(l.now)+1 {
		wanted = api.ErrNone
	}
	k.answered("Put", l.tx.Put(n, p), wanted)
	if wanted == api.OK {
		made := make([]api.Page, max(n, len(l.now)))
		copy(made, l.now)
		made[n-1] = p
		l.now = made
	}
}

func (k *desk) shrink(c int) {
	l := k.talks[c]
	n := len(l.now) + 1 - k.r.Intn(5)
	wanted := api.OK
	if !l.writes {
		wanted = api.ErrRead
	} else if n < 0 || n > len(l.now) {
		wanted = api.ErrArg
	}
	k.answered("Shrink", l.tx.Shrink(n), wanted)
	if wanted == api.OK {
		l.now = l.now[:n:n]
	}
}

func (k *desk) save(c int) {
	l := k.talks[c]
	l.saves = append(l.saves, l.now)
	n, e := l.tx.Save()
	k.answered("Save", e, api.OK)
	if n != len(l.saves) {
		k.t.Fatalf("the savepoint %d, not %d", n, len(l.saves))
	}
}

func (k *desk) back(c int) {
	l := k.talks[c]
	n := k.r.Intn(len(l.saves) + 2)
	if n < 1 || n > len(l.saves) {
		k.answered("Back", l.tx.Back(n), api.ErrNone)
		return
	}
	k.answered("Back", l.tx.Back(n), api.OK)
	l.now, l.saves = l.saves[n-1], l.saves[:n:n]
}

func (k *desk) release(c int) {
	l := k.talks[c]
	n := k.r.Intn(len(l.saves) + 2)
	if n < 1 || n > len(l.saves) {
		k.answered("Release", l.tx.Release(n), api.ErrNone)
		return
	}
	k.answered("Release", l.tx.Release(n), api.OK)
	l.saves = l.saves[: n-1 : n-1]
}

// over is behind a transaction's end.
func (k *desk) over(c int) {
	k.ended = append(k.ended, k.talks[c].tx)
	k.talks[c] = nil
}

// others is the pages of a transaction that are other ones than when it began.
func (l *talk) others() []api.PageAt {
	var pages []api.PageAt
	for i, p := range l.now {
		if i >= len(l.old) || l.old[i] != p {
			pages = append(pages, api.PageAt{N: i + 1, P: p})
		}
	}
	return pages
}

// commitTwin makes the commit on the other disk.
func (k *desk) commitTwin(l *talk) api.Errno {
	if !k.log {
		return journal.Commit(k.twin, len(l.now), l.others())
	}
	mark, e := wal.Commit(k.twin, len(l.now), l.others())
	if e == api.OK {
		k.marks[k.commits+1] = mark
	}
	return e
}

func (k *desk) commit(c int) {
	l := k.talks[c]
	if !l.writes {
		k.answered("Commit of one that reads", l.tx.Commit(), api.OK)
		k.over(c)
		return
	}
	if !k.log && len(k.begun()) > 1 {
		k.answered("Commit", l.tx.Commit(), api.ErrBusy)
		return
	}
	e := l.tx.Commit()
	k.answered("Commit", e, k.commitTwin(l))
	if e == api.OK {
		k.commits++
		k.db = l.now
		k.over(c)
	}
}

func (k *desk) rollback(c int) {
	k.answered("Rollback", k.talks[c].tx.Rollback(), api.OK)
	k.over(c)
}

func (k *desk) checkpoint() {
	got, e := k.store.Checkpoint()
	least := k.commits
	for _, c := range k.begun() {
		least = min(least, k.talks[c].since)
	}
	if !k.log {
		k.answered("Checkpoint", e, api.OK)
	} else {
		k.answered("Checkpoint", e, wal.Checkpoint(k.twin, k.marks[least]))
	}
	empty := k.log && e == api.OK && k.marks[least] == k.marks[k.commits]
	if got != empty {
		k.t.Fatalf("empty %v, not %v", got, empty)
	}
	if empty {
		k.met["an empty log"]++
		for at := range k.marks {
			k.marks[at] = 0
		}
	}
}

// step does something, at random.
func (k *desk) step() {
	k.t.Helper()
	who := k.begun()
	if len(who) == 0 || len(who) < k.most && k.r.Intn(6) == 0 {
		k.begin()
		return
	}
	if k.r.Intn(12) == 0 {
		k.checkpoint()
		return
	}
	c := who[k.r.Intn(len(who))]
	if w := k.writer(); w >= 0 && k.r.Intn(2) == 0 {
		c = w
	}
	[]func(int){k.write, k.write, k.put, k.put, k.put, k.put, k.shrink, k.save, k.back, k.release, k.commit, k.rollback}[k.r.Intn(12)](c)
}

// look holds all that is told against what is to be.
func (k *desk) look() {
	k.t.Helper()
	sameFiles(k.t, "both disks", k.disk, k.twin)
	var reads, writes []int
	for c, l := range k.talks {
		if l == nil {
			continue
		}
		sees(k.t, "at random", l.tx, l.now)
		if l.tx.Writes() != l.writes || l.tx.Over() {
			k.t.Fatalf("%d: writes %v, over %v", c, l.tx.Writes(), l.tx.Over())
		}
		if l.writes || !k.log {
			reads = append(reads, c)
		}
		if l.writes {
			writes = append(writes, c)
		}
	}
	if len(writes) > 1 {
		k.t.Fatal("two write")
	}
	holds(k.t, "at random", k.store, reads, writes)
	for _, tx := range k.ended[max(0, len(k.ended)-3):] {
		if !tx.Over() || tx.Writes() || tx.Count() != 0 || tx.Commit() != api.ErrOver {
			k.t.Fatal("one that is over goes on")
		}
	}
}

// Several connections side by side, held against lists of pages: each sees what was there when it began and its own changes, at most one writes, and what is made of the files is what layers 6 and 7 make.
func TestP98SideBySide(t *testing.T) {
	eachWay(t, func(t *testing.T, log bool) {
		met := map[string]int{}
		for seed := range int64(12) {
			k := newDesk(t, seed, log)
			k.met = met
			for i := range 500 {
				k.step()
				if i%3 == 0 {
					k.look()
				}
			}
			isDatabase(t, "at the end", k.disk, k.db)
		}
		wanted := []string{"Begin: error 2", "Begin: error 6", "Write: error 6", "Put: error 191", "Put: error 4", "Shrink: error 2", "Shrink: error 191", "Back: error 4", "Release: error 4", "Commit: error 0", "Checkpoint: error 0"}
		if log {
			wanted = append(wanted, "Write: error 190", "an empty log")
		} else {
			wanted = append(wanted, "Commit: error 6")
		}
		for _, what := range wanted {
			if met[what] < 10 {
				t.Errorf("%s was met %d times", what, met[what])
			}
		}
	})
}

// Likewise on a disk that is full again and again.
func TestP98SideBySideFull(t *testing.T) {
	eachWay(t, func(t *testing.T, log bool) {
		met := map[string]int{}
		for seed := range int64(8) {
			k := newDesk(t, 100+seed, log)
			k.met, k.most = met, 2
			for i := range 600 {
				if i%5 == 0 {
					used := k.disk.Len("db") + k.disk.Len("wal") + k.disk.Len("journal")
					room := used + k.r.Intn(800)
					k.disk.SetRoom(room)
					k.twin.SetRoom(room)
				}
				k.step()
				if i%3 == 0 {
					k.look()
				}
			}
			isDatabase(t, "at the end", k.disk, k.db)
		}
		if met["Commit: error 5"] < 10 || log && met["Checkpoint: error 5"] < 2 {
			t.Errorf("so few full disks: %v", met)
		}
	})
}

// reopen starts the disk again behind a crash, with choices at random, and opens a store on it by either way, which may crash on the way, too. What is there is what was committed, or what the commit under way would have made.
func (k *desk) reopen(underWay []api.Page, mayBeMade bool) {
	k.t.Helper()
	for {
		k.disk.Crash()
		want(k.t, "Restart", k.disk.Restart(torn(k.r, k.disk.Pending())), api.OK)
		k.log = k.r.Intn(2) == 0
		k.disk.CrashIn(k.r.Intn(30))
		s, e := store.Open(k.disk, k.log)
		if e == api.OK {
			k.store = s
			k.disk.CrashIn(0)
			break
		}
		want(k.t, "Open", e, api.ErrOver)
		k.met["a crash in Open"]++
	}
	for _, tx := range k.ended[max(0, len(k.ended)-8):] {
		refusesTx(k.t, "of the store that is over", tx, api.ErrOver)
	}
	tx := begun(k.t, k.store, 0)
	got := seen(k.t, tx)
	want(k.t, "Rollback", tx.Rollback(), api.OK)
	if mayBeMade && slices.Equal(got, underWay) && !slices.Equal(got, k.db) {
		k.met["made"]++
		k.db = underWay
	}
	if !slices.Equal(got, k.db) {
		k.t.Fatalf("behind a crash: %d pages, neither those that were committed nor those that were to be", len(got))
	}
	k.twin = k.disk.Copy()
	k.open()
}

// crash makes a step at some time of which the disk crashes.
func (k *desk) crash() {
	k.t.Helper()
	c := k.writer()
	if c < 0 {
		k.disk.Crash()
		k.reopen(nil, false)
		return
	}
	now := k.talks[c].now
	k.disk.CrashIn(1 + k.r.Intn(14))
	e := k.talks[c].tx.Commit()
	if e == api.OK {
		k.db = now
	} else if e != api.ErrOver && e != api.ErrBusy {
		k.t.Fatalf("a commit that crashes: %v", e)
	}
	k.met["Commit that crashes: "+e.Error()]++
	if e == api.ErrOver {
		refuses(k.t, "a crash", k.store, api.ErrOver)
		refusesTx(k.t, "a crash", k.talks[c].tx, api.ErrOver)
	}
	k.reopen(now, e == api.ErrOver)
}

// A long life with crashes, of stores that are opened now by the one way, now by the other.
func TestP98LongLife(t *testing.T) {
	met := map[string]int{}
	for seed := range int64(30) {
		k := newDesk(t, seed, seed%2 == 0)
		k.met = met
		for i := range 300 {
			k.step()
			if i%20 == 0 {
				k.look()
				k.crash()
			}
		}
		isDatabase(t, "at the end", k.disk, k.db)
	}
	for _, what := range []string{"made", "a crash in Open", "Commit that crashes: error 7", "Commit that crashes: error 0", "Commit that crashes: error 6"} {
		if met[what] < 5 {
			t.Errorf("%s was met %d times", what, met[what])
		}
	}
}
