package store_test

import (
	"math"
	"slices"
	"testing"

	"bureau/api"
	"bureau/disk"
	"bureau/journal"
	"bureau/store"
	"bureau/wal"
)

func TestP91Examples(t *testing.T) {
	eachWay(t, func(t *testing.T, log bool) {
		s := opened(t, disk.New(1<<16), log)
		if s.Log() != log || s.Over() {
			t.Fatalf("log %v, over %v", s.Log(), s.Over())
		}
		p := filled(1)
		a := begun(t, s, 0)
		want(t, "it reads", a.Put(1, p), api.ErrRead)
		want(t, "Write", a.Write(), api.OK)
		want(t, "it writes", a.Put(1, p), api.OK)
		want(t, "the page 3 of 1", a.Put(3, p), api.ErrNone)
		if tx, e := s.Begin(0); tx != nil || e != api.ErrBusy {
			t.Fatalf("a second one: %v %v", tx, e)
		}
		b := begun(t, s, 1)
		want(t, "a second one that writes", b.Write(), api.ErrBusy)
		sees(t, "a second one", b, nil)
		if log {
			want(t, "Commit", a.Commit(), api.OK)
			sees(t, "behind the commit", b, nil)
			want(t, "behind the commit", b.Write(), api.ErrStale)
			want(t, "Rollback", b.Rollback(), api.OK)
		} else {
			want(t, "another one reads", a.Commit(), api.ErrBusy)
			want(t, "Commit", b.Commit(), api.OK)
			want(t, "nobody reads", a.Commit(), api.OK)
		}
		sees(t, "behind it", begun(t, s, 1), []api.Page{p})
	})
}

func TestP91NoDisk(t *testing.T) {
	eachWay(t, func(t *testing.T, log bool) {
		for _, d := range []*disk.Disk{nil, {}} {
			if s, e := store.Open(d, log); s != nil || e != api.ErrNil {
				t.Errorf("no disk: %v %v", s, e)
			}
		}
		d, _ := with(t, log, some(1, 2))
		d.Crash()
		if s, e := store.Open(d, log); s != nil || e != api.ErrOver {
			t.Errorf("a disk that is down: %v %v", s, e)
		}
	})
}

func TestP91NoStore(t *testing.T) {
	for _, s := range noStores() {
		refuses(t, "no store", s, api.ErrNil)
		if s.Log() {
			t.Error("no store by the log")
		}
	}
}

// hot is a disk whose journal is hot, with the pages that are to be again.
func hot(t *testing.T) (*disk.Disk, []api.Page) {
	t.Helper()
	old := some(1, 3)
	d, s := with(t, false, old)
	tx := writing(t, s, 0)
	fill(t, tx, some(90, 5))
	d.CrashIn(14) // the head 2, the records 3 and 1, the head 2, five pages, and the Truncate
	want(t, "a crash", tx.Commit(), api.ErrOver)
	want(t, "Restart", d.Restart(slices.Repeat([]int{1}, d.Pending())), api.OK)
	if !journal.Hot(d) || journal.Count(d) != 5 {
		t.Fatal("the journal is not hot")
	}
	return d, old
}

func TestP91HotJournal(t *testing.T) {
	eachWay(t, func(t *testing.T, log bool) {
		d, old := hot(t)
		s := opened(t, d, log)
		if journal.Hot(d) || read(d, "db") != bytesOf(old) {
			t.Fatal("the journal was not taken back")
		}
		sees(t, "taken back", begun(t, s, 0), old)
	})
}

// By the journal a log is brought home, as a whole; by the log it stays.
func TestP91Log(t *testing.T) {
	eachWay(t, func(t *testing.T, log bool) {
		d, s := with(t, true, some(1, 3))
		commit(t, s, some(50, 5))
		commit(t, s, some(70, 4))
		before, was := d.Steps(), read(d, "wal")
		s = opened(t, d, log)
		if s.Log() != log {
			t.Fatal("another way")
		}
		mark, e := wal.Mark(d)
		want(t, "Mark", e, api.OK)
		if log {
			if mark != 12 || d.Steps() != before || read(d, "wal") != was || read(d, "db") != "" {
				t.Fatalf("the log was changed: the mark %d", mark)
			}
		} else if mark != 0 || read(d, "db") != bytesOf(some(70, 4)) {
			t.Fatalf("the log is not at home: the mark %d", mark)
		}
		sees(t, "opened", begun(t, s, 0), some(70, 4))
	})
}

// What is there is taken, whoever laid it: a db without a log and a journal, with a piece of a page at its end.
func TestP91Db(t *testing.T) {
	eachWay(t, func(t *testing.T, log bool) {
		d := disk.New(plenty)
		laid(d, "db", bytesOf(some(1, 4))[:3*256+255])
		s := opened(t, d, log)
		tx := writing(t, s, 2)
		sees(t, "three and a piece", tx, some(1, 3))
		want(t, "Put", tx.Put(4, filled(200)), api.OK)
		want(t, "Commit", tx.Commit(), api.OK)
		isDatabase(t, "one more", d, append(some(1, 3), filled(200)))
	})
}

func TestP91BadFiles(t *testing.T) {
	badJournal := sealed(api.Words{2, 0, 0, 0})
	badLog := sealed(api.Words{1, 0, 0, 0})
	for _, c := range []struct {
		what         string
		journal, log string
	}{
		{"a journal", badJournal, ""},
		{"a log", "", badLog},
		{"both", badJournal, badLog},
	} {
		eachWay(t, func(t *testing.T, log bool) {
			d := disk.New(plenty)
			laid(d, "db", bytesOf(some(1, 4)))
			laid(d, "journal", c.journal)
			laid(d, "wal", c.log)
			same := d.Copy()
			if s, e := store.Open(d, log); s != nil || e != api.ErrBad {
				t.Errorf("%s: %v %v", c.what, s, e)
			}
			sameFiles(t, c.what, d, same)
		})
	}
}

// The journal's error comes ahead of the log's.
func TestP91ErrorsInOrder(t *testing.T) {
	eachWay(t, func(t *testing.T, log bool) {
		d, _ := hot(t)
		laid(d, "wal", sealed(api.Words{1, 0, 0, 0}))
		d.CrashIn(2)
		if _, e := store.Open(d, log); e != api.ErrOver {
			t.Errorf("a crash on the way back, ahead of a log that is none: %v", e)
		}
		want(t, "Restart", d.Restart(nil), api.OK)
		if _, e := store.Open(d, log); e != api.ErrBad {
			t.Errorf("a log that is none: %v", e)
		}
	})
}

// A store that cannot be opened for a crash or want of room can be later, and the database is what it was.
func TestP91CrashAndFull(t *testing.T) {
	eachWay(t, func(t *testing.T, log bool) {
		d, old := hot(t)
		for n := 1; ; n++ {
			one := d.Copy()
			one.CrashIn(n)
			_, e := store.Open(one, log)
			if e == api.OK {
				break
			}
			want(t, "a crash on the way back", e, api.ErrOver)
			want(t, "Restart", one.Restart(nil), api.OK)
			isDatabase(t, "behind a crash on the way back", one, old)
		}
	})
	d, s := with(t, true, some(1, 3))
	commit(t, s, some(50, 5))
	d.SetRoom(d.Len("wal") + 256)
	if s, e := store.Open(d, false); s != nil || e != api.ErrFull {
		t.Fatalf("no room to bring the log home: %v %v", s, e)
	}
	isDatabase(t, "no room", d, some(50, 5))
	sees(t, "no room, by the log", begun(t, opened(t, d, true), 0), some(50, 5))
	d.SetRoom(plenty)
	d.CrashIn(4)
	if s, e := store.Open(d, false); s != nil || e != api.ErrOver {
		t.Fatalf("a crash on the way home: %v %v", s, e)
	}
	want(t, "Restart", d.Restart([]int{1, 5, 1}), api.OK)
	isDatabase(t, "a crash on the way home", d, some(50, 5))
}

func TestP91Over(t *testing.T) {
	eachWay(t, func(t *testing.T, log bool) {
		d, s := with(t, log, some(1, 3))
		a := begun(t, s, 0)
		b := writing(t, s, 1)
		want(t, "Put", b.Put(1, filled(9)), api.OK)
		if _, e := b.Save(); e != api.OK {
			t.Fatal(e)
		}
		ended := begun(t, s, 2)
		want(t, "Rollback", ended.Rollback(), api.OK)
		d.Crash()
		for _, what := range []string{"down", "started again", "opened again"} {
			refuses(t, what, s, api.ErrOver)
			if s.Log() != log {
				t.Errorf("%s: by another way", what)
			}
			for _, tx := range []*store.Tx{a, b, ended} {
				refusesTx(t, what, tx, api.ErrOver)
			}
			switch what {
			case "down":
				want(t, "Restart", d.Restart(nil), api.OK)
			case "started again":
				s2 := opened(t, d, log)
				if s2.Over() {
					t.Fatal("opened again, and over")
				}
				holds(t, what, s2, nil, nil)
				sees(t, what, begun(t, s2, 0), some(1, 3))
				sees(t, what, writing(t, s2, 1), some(1, 3))
			}
		}
	})
}

// One store's disk has nothing to do with another one's.
func TestP91Apart(t *testing.T) {
	eachWay(t, func(t *testing.T, log bool) {
		d, s := with(t, log, some(1, 2))
		other := opened(t, d.Copy(), log)
		d.Crash()
		if !s.Over() || other.Over() {
			t.Fatal("which of the two is over?")
		}
		commit(t, other, some(30, 4))
		sees(t, "the other one", begun(t, other, 0), some(30, 4))
		d.Restart(nil)
		isDatabase(t, "the first one", d, some(1, 2))
	})
}

func TestP92Begin(t *testing.T) {
	eachWay(t, func(t *testing.T, log bool) {
		d, s := with(t, log, some(1, 3))
		before := d.Steps()
		for _, c := range []int{math.MinInt, math.MinInt32, -1, api.MaxConns, api.MaxConns + 1, 256, 1 << 32, math.MaxInt} {
			if tx, e := s.Begin(c); tx != nil || e != api.ErrArg {
				t.Errorf("the connection %d: %v %v", c, tx, e)
			}
		}
		holds(t, "refused", s, nil, nil)
		var all []int
		for c := range api.MaxConns {
			tx := begun(t, s, c)
			if tx.Over() || tx.Writes() {
				t.Errorf("over %v, writes %v", tx.Over(), tx.Writes())
			}
			sees(t, "begun", tx, some(1, 3))
			all = append(all, c)
			if log {
				holds(t, "begun", s, nil, nil)
			} else {
				holds(t, "begun", s, all, nil)
			}
		}
		for c := range api.MaxConns {
			if tx, e := s.Begin(c); tx != nil || e != api.ErrBusy {
				t.Errorf("a second one of %d: %v %v", c, tx, e)
			}
		}
		if d.Steps() != before {
			t.Error("steps were made")
		}
	})
}

// A connection may begin anew when its transaction is over, however it ended; the old one stays over.
func TestP92Again(t *testing.T) {
	eachWay(t, func(t *testing.T, log bool) {
		_, s := with(t, log, some(1, 3))
		var ended []*store.Tx
		now := some(1, 3)
		for i, end := range []func(tx *store.Tx) api.Errno{(*store.Tx).Commit, (*store.Tx).Rollback} {
			tx := begun(t, s, 4)
			if _, e := s.Begin(4); e != api.ErrBusy {
				t.Fatal(e)
			}
			want(t, "one that reads ends", end(tx), api.OK)
			ended = append(ended, tx)
			tx = writing(t, s, 4)
			want(t, "Put", tx.Put(1, filled(byte(100+i))), api.OK)
			if _, e := s.Begin(4); e != api.ErrBusy {
				t.Fatal(e)
			}
			want(t, "one that writes ends", end(tx), api.OK)
			ended = append(ended, tx)
			now[0] = filled(100)
			last := begun(t, s, 4)
			sees(t, "the next one", last, now)
			for _, tx := range ended {
				refusesTx(t, "ended", tx, api.ErrOver)
			}
			sees(t, "the next one still", last, now)
			if last.Over() || s.Over() {
				t.Fatal("over")
			}
			want(t, "Rollback", last.Rollback(), api.OK)
		}
	})
}

// Files that are spoilt behind a store's back are met with ErrBad, and nothing is held for it.
func TestP92BadFiles(t *testing.T) {
	d, s := with(t, true, some(1, 3))
	a, b := begun(t, s, 0), begun(t, s, 1)
	log := read(d, "wal")
	laid(d, "wal", sealed(api.Words{99}))
	if tx, e := s.Begin(2); tx != nil || e != api.ErrBad {
		t.Errorf("Begin: %v %v", tx, e)
	}
	if _, e := s.Begin(1); e != api.ErrBusy {
		t.Errorf("busy ahead of bad: %v", e)
	}
	if p, e := a.Page(1); p != (api.Page{}) || e != api.ErrBad {
		t.Errorf("Page: %v", e)
	}
	if _, e := a.Page(0); e != api.ErrNone {
		t.Errorf("no such page ahead of bad: %v", e)
	}
	if n := a.Count(); n != 3 {
		t.Errorf("%d pages", n)
	}
	want(t, "Write", a.Write(), api.ErrBad)
	holds(t, "refused", s, nil, nil)
	if empty, e := s.Checkpoint(); empty || e != api.ErrBad {
		t.Errorf("Checkpoint: %v %v", empty, e)
	}
	laid(d, "wal", log)
	sees(t, "as it was", a, some(1, 3))
	want(t, "Write", b.Write(), api.OK)
	want(t, "Put", b.Put(1, filled(200)), api.OK)
	laid(d, "wal", sealed(api.Words{99}))
	want(t, "it writes already", b.Write(), api.OK)
	want(t, "Commit", b.Commit(), api.ErrBad)
	laid(d, "wal", log)
	holds(t, "a commit that was refused", s, []int{1}, []int{1})
	want(t, "Commit", b.Commit(), api.OK)
	sees(t, "at its mark", a, some(1, 3))
	sees(t, "committed", begun(t, s, 2), append([]api.Page{filled(200)}, some(1, 3)[1:]...))
}
