package store_test

import (
	"slices"
	"testing"

	"bureau/api"
	"bureau/disk"
	"bureau/store"
	"bureau/wal"
)

// checkpoint makes one, and fails the test unless it tells that.
func checkpoint(t *testing.T, what string, s *store.Store, empty bool) {
	t.Helper()
	if got, e := s.Checkpoint(); got != empty || e != api.OK {
		t.Fatalf("%s: Checkpoint: %v %v, not %v", what, got, e, empty)
	}
}

// hasMarks fails the test unless the log has just those.
func hasMarks(t *testing.T, what string, d *disk.Disk, wanted ...int) {
	t.Helper()
	if got, e := wal.Marks(d); !slices.Equal(got, wanted) || e != api.OK {
		t.Fatalf("%s: marks %v %v, not %v", what, got, e, wanted)
	}
}

// By the journal there is no log, and nothing is done, whatever lies there.
func TestP97Journal(t *testing.T) {
	d, s := with(t, false, some(1, 3))
	laid(d, "wal", "a log that is none, of enough bytes for a head, and for some more than that")
	same := d.Copy()
	d.SetRoom(0)
	d.CrashIn(1)
	checkpoint(t, "by the journal", s, false)
	tx := writing(t, s, 0)
	checkpoint(t, "by the journal", s, false)
	sameFiles(t, "by the journal", d, same)
	sees(t, "by the journal", tx, some(1, 3))
}

func TestP97NobodyReads(t *testing.T) {
	d := disk.New(plenty)
	s := opened(t, d, true)
	checkpoint(t, "no log", s, true)
	if d.Steps() != 0 {
		t.Fatal("no log, and steps were made")
	}
	commit(t, s, some(1, 3))
	commit(t, s, some(1, 5))
	hasMarks(t, "ahead of it", d, 0, 3, 5)
	twin := d.Copy()
	checkpoint(t, "nobody reads", s, true)
	want(t, "layer 7's", wal.Checkpoint(twin, 5), api.OK)
	sameFiles(t, "nobody reads", d, twin)
	hasMarks(t, "at home", d, 0)
	checkpoint(t, "an empty log", s, true)
	sameFiles(t, "an empty log", d, twin)
	sees(t, "at home", begun(t, s, 0), some(1, 5))
}

// A checkpoint goes up to the least mark at which somebody reads.
func TestP97LeastMark(t *testing.T) {
	d, s := with(t, true, some(1, 3))
	commit(t, s, some(20, 3))
	a := begun(t, s, 0) // at 6
	commit(t, s, some(40, 4))
	b := begun(t, s, 1) // at 10
	commit(t, s, some(60, 2))
	c := begun(t, s, 2) // at 12, the last mark
	all := func(what string) {
		t.Helper()
		if !a.Over() {
			sees(t, what, a, some(20, 3))
		}
		if !b.Over() {
			sees(t, what, b, some(40, 4))
		}
		sees(t, what, c, some(60, 2))
		isDatabase(t, what, d, some(60, 2))
	}
	all("ahead of it")
	for _, step := range []struct {
		mark int
		end  *store.Tx
	}{{6, a}, {10, b}} {
		twin := d.Copy()
		want(t, "layer 7's", wal.Checkpoint(twin, step.mark), api.OK)
		checkpoint(t, "one reads", s, false)
		sameFiles(t, "one reads", d, twin)
		hasMarks(t, "one reads", d, 0, 3, 6, 10, 12)
		all("one reads")
		want(t, "Rollback", step.end.Rollback(), api.OK)
	}
	checkpoint(t, "all read at the last mark", s, true)
	hasMarks(t, "at home", d, 0)
	all("at home")
	if read(d, "db") != bytesOf(some(60, 2)) {
		t.Fatal("what came home")
	}
}

// One that reads at the mark 0 keeps all from coming home.
func TestP97MarkNought(t *testing.T) {
	d := disk.New(plenty)
	laid(d, "db", bytesOf(some(1, 3)))
	s := opened(t, d, true)
	a := begun(t, s, 0)
	checkpoint(t, "an empty log", s, true)
	commit(t, s, some(20, 2))
	same := d.Copy()
	d.CrashIn(1)
	checkpoint(t, "one reads at the mark 0", s, false)
	sameFiles(t, "one reads at the mark 0", d, same)
	d.CrashIn(0)
	sees(t, "at the mark 0", a, some(1, 3))
	want(t, "at the mark 0", a.Write(), api.ErrStale)
	want(t, "Commit", a.Commit(), api.OK)
	checkpoint(t, "nobody reads", s, true)
	sees(t, "at home", begun(t, s, 0), some(20, 2))
}

// Who reads at the last mark reads on when the log is empty, is not stale, and stays behind what is committed then.
func TestP97ReadsOn(t *testing.T) {
	d, s := with(t, true, some(1, 3))
	commit(t, s, some(20, 4))
	a, b := begun(t, s, 0), begun(t, s, 1)
	w := writing(t, s, 2)
	want(t, "Put", w.Put(2, filled(99)), api.OK)
	save(t, w, 1)
	checkpoint(t, "all read at the last mark", s, true)
	hasMarks(t, "at home", d, 0)
	changed := []api.Page{filled(20), filled(99), filled(26), filled(29)}
	sees(t, "it reads on", a, some(20, 4))
	sees(t, "it writes on", w, changed)
	want(t, "busy", a.Write(), api.ErrBusy)
	holds(t, "it writes on", s, []int{2}, []int{2})
	want(t, "Commit", w.Commit(), api.OK)
	hasMarks(t, "just the page that is another one", d, 0, 1)
	sees(t, "it reads on", a, some(20, 4))
	want(t, "stale", a.Write(), api.ErrStale)
	sees(t, "behind it", begun(t, s, 2), changed)
	checkpoint(t, "two read at the mark 0", s, false)
	sees(t, "it reads on", a, some(20, 4))
	want(t, "Rollback", a.Rollback(), api.OK)
	checkpoint(t, "one reads at the mark 0", s, false)
	sees(t, "it reads on", b, some(20, 4))
	want(t, "Rollback", b.Rollback(), api.OK)
	checkpoint(t, "one reads at the last mark", s, true)
	isDatabase(t, "at home", d, changed)
	// As many frames as ahead of the checkpoint: the mark is the same number again, but another one.
	again := begun(t, s, 0)
	commit(t, s, some(77, 1))
	want(t, "stale", again.Write(), api.ErrStale)
	sees(t, "it reads on", again, changed)
}

// A page's mark that comes again behind a checkpoint is none that an older transaction reads at.
func TestP97SameMarkAgain(t *testing.T) {
	_, s := with(t, true, some(1, 2))
	a := begun(t, s, 0) // at 2
	checkpoint(t, "it reads at the last mark", s, true)
	commit(t, s, some(50, 2)) // 2 again
	sees(t, "it reads on", a, some(1, 2))
	want(t, "stale", a.Write(), api.ErrStale)
	checkpoint(t, "it reads at the mark 0", s, false)
	sees(t, "it reads on", a, some(1, 2))
	sees(t, "another one", begun(t, s, 1), some(50, 2))
}

// A full disk ends a checkpoint; nobody sees anything of it, and it can be made when there is room.
func TestP97Full(t *testing.T) {
	d, s := with(t, true, some(1, 3))
	commit(t, s, some(20, 6))
	a := begun(t, s, 0)
	w := writing(t, s, 1)
	want(t, "Put", w.Put(1, filled(99)), api.OK)
	now := append([]api.Page{filled(99)}, some(20, 6)[1:]...)
	fulls := 0
	for room := d.Len("wal"); ; room += 100 {
		d.SetRoom(room)
		empty, e := s.Checkpoint()
		sees(t, "it reads", a, some(20, 6))
		sees(t, "it writes", w, now)
		holds(t, "full", s, []int{1}, []int{1})
		isDatabase(t, "full", d, some(20, 6))
		if e == api.OK {
			if !empty {
				t.Fatal("the log is not empty")
			}
			break
		}
		want(t, "Checkpoint", e, api.ErrFull)
		hasMarks(t, "full", d, 0, 3, 9)
		if empty {
			t.Fatal("full, and the log is empty")
		}
		fulls++
	}
	if fulls < 10 {
		t.Errorf("so few full disks: %d", fulls)
	}
	d.SetRoom(plenty)
	want(t, "Commit", w.Commit(), api.OK)
	isDatabase(t, "behind it", d, now)
}

// A log that is as long as a file may be makes room by a checkpoint, under way in a transaction.
func TestP97LongLog(t *testing.T) {
	d := disk.New(plenty)
	s := opened(t, d, true)
	for i := range 5 {
		commit(t, s, some(byte(i), 600))
	}
	w := writing(t, s, 0)
	fill(t, w, some(100, 600))
	want(t, "a log that is too long", w.Commit(), api.ErrFull)
	sees(t, "it goes on", w, some(100, 600))
	checkpoint(t, "it reads at the last mark", s, true)
	sees(t, "it goes on", w, some(100, 600))
	want(t, "Commit", w.Commit(), api.OK)
	isDatabase(t, "committed", d, some(100, 600))
}

func TestP97Crash(t *testing.T) {
	d, s := with(t, true, some(1, 3))
	commit(t, s, some(20, 6))
	for n := 1; ; n++ {
		one := d.Copy()
		s := opened(t, one, true)
		a := begun(t, s, 0)
		one.CrashIn(n)
		empty, e := s.Checkpoint()
		if e == api.OK {
			if !empty || n < 5 {
				t.Fatalf("%v behind %d steps", empty, n)
			}
			break
		}
		want(t, "Checkpoint", e, api.ErrOver)
		if empty {
			t.Fatal("a crash, and the log is empty")
		}
		refuses(t, "a crash", s, api.ErrOver)
		refusesTx(t, "a crash", a, api.ErrOver)
		for _, choices := range [][]int{nil, {1}, {0, 1}, {1, 1, 1, 1, 1, 1, 1, 1, 1, 1, 1, 1, 1, 1, 1, 1, 1, 1, 1, 1}, {5, 1, 7, 9, 1, 1, 30}} {
			one := one.Copy()
			want(t, "Restart", one.Restart(choices), api.OK)
			isDatabase(t, "a crash", one, some(20, 6))
		}
	}
}

func TestP97Holders(t *testing.T) {
	eachWay(t, func(t *testing.T, log bool) {
		_, s := with(t, log, some(1, 3))
		holds(t, "nobody", s, nil, nil)
		var txs []*store.Tx
		for _, c := range []int{7, 3, 5} {
			txs = append(txs, begun(t, s, c))
		}
		want(t, "Write", txs[2].Write(), api.OK)
		if log {
			holds(t, "one writes", s, []int{5}, []int{5})
		} else {
			holds(t, "one writes", s, []int{3, 5, 7}, []int{5})
		}
		who := s.Holders(api.LockNone)
		who[0] = 99
		holds(t, "what was told is the caller's own", s, s.Holders(api.LockShared), []int{5})
		for _, tx := range txs {
			want(t, "Rollback", tx.Rollback(), api.OK)
		}
		holds(t, "nobody any more", s, nil, nil)
	})
}
