package store_test

import (
	"math"
	"slices"
	"testing"

	"bureau/api"
	"bureau/disk"
	"bureau/journal"
	"bureau/store"
	"bureau/wal"
)

func TestP93NoTx(t *testing.T) {
	for _, tx := range noTxs() {
		refusesTx(t, "no transaction", tx, api.ErrNil)
	}
}

func TestP93Page(t *testing.T) {
	eachWay(t, func(t *testing.T, log bool) {
		for _, n := range []int{0, 1, 2, 9} {
			_, s := with(t, log, some(1, n))
			sees(t, "one that reads", begun(t, s, 0), some(1, n))
			sees(t, "one that writes", writing(t, s, 1), some(1, n))
		}
	})
}

// What a page tells is the caller's own.
func TestP93PageIsNew(t *testing.T) {
	eachWay(t, func(t *testing.T, log bool) {
		_, s := with(t, log, some(1, 2))
		tx := writing(t, s, 0)
		put := filled(77)
		want(t, "Put", tx.Put(2, put), api.OK)
		put[3] = 0
		for n := range 2 {
			p, _ := tx.Page(n + 1)
			p[3] = 0
		}
		sees(t, "behind that", tx, []api.Page{filled(1), filled(77)})
	})
}

func TestP93Write(t *testing.T) {
	eachWay(t, func(t *testing.T, log bool) {
		d, s := with(t, log, some(1, 2))
		before := d.Steps()
		a, b := begun(t, s, 0), begun(t, s, 5)
		readers := []int{0, 5}
		if log {
			readers = nil
		}
		holds(t, "both read", s, readers, nil)
		if a.Writes() || b.Writes() {
			t.Fatal("it writes without Write")
		}
		want(t, "Write", b.Write(), api.OK)
		if log {
			readers = []int{5}
		}
		for range 2 {
			holds(t, "one writes", s, readers, []int{5})
			if a.Writes() || !b.Writes() {
				t.Fatalf("which of the two writes: %v, %v", a.Writes(), b.Writes())
			}
			want(t, "the other one", a.Write(), api.ErrBusy)
			want(t, "once more", b.Write(), api.OK)
		}
		sees(t, "it writes", b, some(1, 2))
		want(t, "Rollback", b.Rollback(), api.OK)
		want(t, "nobody writes", a.Write(), api.OK)
		if !a.Writes() || b.Writes() || d.Steps() != before {
			t.Fatal("who writes?")
		}
		holds(t, "the other one writes", s, []int{0}, []int{0})
	})
}

// By the log one that began ahead of a commit may not write any more, even if the commit changed nothing.
func TestP93Stale(t *testing.T) {
	for _, pages := range [][]api.Page{some(1, 2), some(30, 2), some(1, 0), some(1, 3)} {
		_, s := with(t, true, some(1, 2))
		a, b := begun(t, s, 0), begun(t, s, 1)
		commit(t, s, pages)
		c := writing(t, s, 2)
		want(t, "busy ahead of stale", a.Write(), api.ErrBusy)
		want(t, "Rollback", c.Rollback(), api.OK)
		for range 2 {
			want(t, "stale", a.Write(), api.ErrStale)
			holds(t, "stale", s, nil, nil)
		}
		if a.Writes() {
			t.Fatal("stale, and it writes")
		}
		want(t, "it reads", a.Put(1, filled(9)), api.ErrRead)
		sees(t, "stale", a, some(1, 2))
		want(t, "Commit", a.Commit(), api.OK)
		want(t, "the other one", b.Write(), api.ErrStale)
		a = writing(t, s, 0)
		sees(t, "begun anew", a, pages)
		want(t, "one writes already", b.Write(), api.ErrBusy)
	}
}

// A rollback, a read and a commit that is refused make nobody stale.
func TestP93NotStale(t *testing.T) {
	d, s := with(t, true, some(1, 2))
	a := begun(t, s, 0)
	b := writing(t, s, 1)
	fill(t, b, some(9, 4))
	d.SetRoom(d.Len("wal"))
	want(t, "Commit", b.Commit(), api.ErrFull)
	want(t, "Rollback", b.Rollback(), api.OK)
	c := begun(t, s, 2)
	want(t, "Commit", c.Commit(), api.OK)
	want(t, "Write", a.Write(), api.OK)
}

// One that writes goes on writing when others began behind it, and nobody else does.
func TestP93Eight(t *testing.T) {
	eachWay(t, func(t *testing.T, log bool) {
		_, s := with(t, log, some(1, 2))
		var txs []*store.Tx
		for c := range api.MaxConns {
			txs = append(txs, begun(t, s, c))
		}
		for w, writer := range txs {
			want(t, "Write", writer.Write(), api.OK)
			for c, other := range txs[w+1:] {
				want(t, "another one", other.Write(), api.ErrBusy)
				if other.Writes() {
					t.Errorf("%d writes beside %d", w+1+c, w)
				}
			}
			want(t, "Rollback", writer.Rollback(), api.OK)
		}
	})
}

func TestP94Put(t *testing.T) {
	eachWay(t, func(t *testing.T, log bool) {
		d, s := with(t, log, some(1, 3))
		before := d.Steps()
		tx := begun(t, s, 0)
		for _, n := range []int{math.MinInt, 0, 1, 3, 4, 5, math.MaxInt} {
			want(t, "it reads", tx.Put(n, filled(9)), api.ErrRead)
		}
		want(t, "Write", tx.Write(), api.OK)
		now := some(1, 3)
		for i, n := range []int{2, 1, 4, 3, 4, 5, 5, 1, 6} {
			p := filled(byte(100 + 7*i))
			want(t, "Put", tx.Put(n, p), api.OK)
			now = append(now[:n-1:n-1], append([]api.Page{p}, now[min(n, len(now)):]...)...)
			sees(t, "Put", tx, now)
			for _, n := range []int{math.MinInt, -1, 0, len(now) + 2, len(now) + 3, api.MaxPages, api.MaxPages + 1, 1 << 32, 1<<32 + 1, math.MaxInt} {
				want(t, "no such page", tx.Put(n, filled(9)), api.ErrNone)
			}
			sees(t, "refused", tx, now)
		}
		if d.Steps() != before {
			t.Error("steps were made ahead of the commit")
		}
		isDatabase(t, "ahead of the commit", d, some(1, 3))
	})
}

func TestP94MostPages(t *testing.T) {
	eachWay(t, func(t *testing.T, log bool) {
		d := disk.New(plenty)
		laid(d, "db", bytesOf(some(1, api.MaxPages-1)))
		s := opened(t, d, log)
		tx := writing(t, s, 0)
		want(t, "the last page", tx.Put(api.MaxPages, filled(9)), api.OK)
		for range 2 {
			want(t, "one more", tx.Put(api.MaxPages+1, filled(9)), api.ErrFull)
			want(t, "two more", tx.Put(api.MaxPages+2, filled(9)), api.ErrNone)
			want(t, "none", tx.Put(0, filled(9)), api.ErrNone)
			if n := tx.Count(); n != api.MaxPages {
				t.Fatalf("%d pages", n)
			}
		}
		want(t, "the last page again", tx.Put(api.MaxPages, filled(8)), api.OK)
		want(t, "Commit", tx.Commit(), api.OK)
		now := append(some(1, api.MaxPages-1), filled(8))
		isDatabase(t, "as many as may be", d, now)
		tx = writing(t, s, 0)
		want(t, "one more", tx.Put(api.MaxPages+1, filled(9)), api.ErrFull)
		want(t, "Shrink", tx.Shrink(api.MaxPages), api.OK)
		want(t, "Shrink", tx.Shrink(0), api.OK)
		want(t, "Put", tx.Put(1, filled(3)), api.OK)
		if log {
			want(t, "Commit", tx.Commit(), api.OK)
			isDatabase(t, "from all to one", d, []api.Page{filled(3)})
			return
		}
		// A journal of all pages would be longer than a file may be.
		want(t, "Commit", tx.Commit(), api.ErrFull)
		sees(t, "it goes on", tx, []api.Page{filled(3)})
		isDatabase(t, "it goes on", d, now)
	})
}

func TestP94Shrink(t *testing.T) {
	eachWay(t, func(t *testing.T, log bool) {
		d, s := with(t, log, some(1, 5))
		before := d.Steps()
		tx := begun(t, s, 0)
		for _, n := range []int{math.MinInt, -1, 0, 4, 5, 6, math.MaxInt} {
			want(t, "it reads", tx.Shrink(n), api.ErrRead)
		}
		want(t, "Write", tx.Write(), api.OK)
		fives := some(1, 5)
		wrong := func(now []api.Page) {
			t.Helper()
			for _, n := range []int{math.MinInt, -1, len(now) + 1, api.MaxPages, api.MaxPages + 1, 1 << 32, math.MaxInt} {
				want(t, "no such count", tx.Shrink(n), api.ErrArg)
			}
			sees(t, "Shrink", tx, now)
		}
		wrong(fives)
		want(t, "as many as there are", tx.Shrink(5), api.OK)
		wrong(fives)
		want(t, "Shrink", tx.Shrink(3), api.OK)
		wrong(fives[:3])
		want(t, "behind the end", tx.Put(5, filled(9)), api.ErrNone)
		want(t, "Put", tx.Put(4, filled(9)), api.OK)
		wrong(append(some(1, 3), filled(9)))
		want(t, "what was cut off does not come back", tx.Put(5, api.Page{}), api.OK)
		wrong(append(some(1, 3), filled(9), api.Page{}))
		want(t, "Shrink", tx.Shrink(4), api.OK)
		wrong(append(some(1, 3), filled(9)))
		want(t, "to nothing", tx.Shrink(0), api.OK)
		wrong(nil)
		want(t, "nothing of nothing", tx.Shrink(0), api.OK)
		wrong(nil)
		want(t, "the first one", tx.Put(1, filled(4)), api.OK)
		wrong([]api.Page{filled(4)})
		if d.Steps() != before {
			t.Error("steps were made ahead of the commit")
		}
		want(t, "Commit", tx.Commit(), api.OK)
		isDatabase(t, "committed", d, []api.Page{filled(4)})
	})
}

// change is how a transaction goes from three pages to others: what it does, what is there then, which pages are other ones.
type change struct {
	what string
	do   func(tx *store.Tx)
	now  []api.Page
	at   []int
}

// changes are such of all sorts, from some(1, 3) on.
func changes() []change {
	old, p, q := some(1, 3), filled(100), filled(200)
	return []change{
		{"nothing", func(tx *store.Tx) {}, old, nil},
		{"one page", func(tx *store.Tx) { tx.Put(2, p) }, []api.Page{old[0], p, old[2]}, []int{2}},
		{"falling numbers", func(tx *store.Tx) { tx.Put(3, q); tx.Put(1, p) }, []api.Page{p, old[1], q}, []int{1, 3}},
		{"twice", func(tx *store.Tx) { tx.Put(1, p); tx.Put(1, q) }, []api.Page{q, old[1], old[2]}, []int{1}},
		{"as it was", func(tx *store.Tx) { tx.Put(1, old[0]); tx.Put(3, old[2]) }, old, nil},
		{"there and back", func(tx *store.Tx) { tx.Put(1, p); tx.Put(2, q); tx.Put(1, old[0]) }, []api.Page{old[0], q, old[2]}, []int{2}},
		{"what another one was", func(tx *store.Tx) { tx.Put(1, old[1]) }, []api.Page{old[1], old[1], old[2]}, []int{1}},
		{"grows", func(tx *store.Tx) { tx.Put(4, p); tx.Put(5, p) }, append(some(1, 3), p, p), []int{4, 5}},
		{"grows by zeros", func(tx *store.Tx) { tx.Put(4, api.Page{}) }, append(some(1, 3), api.Page{}), []int{4}},
		{"grows and goes back", func(tx *store.Tx) { tx.Put(4, p); tx.Put(5, p); tx.Shrink(3) }, old, nil},
		{"grows and goes half back", func(tx *store.Tx) { tx.Put(4, p); tx.Put(5, q); tx.Shrink(4) }, append(some(1, 3), p), []int{4}},
		{"shrinks", func(tx *store.Tx) { tx.Shrink(1) }, old[:1], nil},
		{"shrinks to nothing", func(tx *store.Tx) { tx.Shrink(0) }, nil, nil},
		{"shrinks and changes", func(tx *store.Tx) { tx.Put(1, p); tx.Put(3, p); tx.Shrink(2) }, []api.Page{p, old[1]}, []int{1}},
		{"shrinks and comes back", func(tx *store.Tx) { tx.Shrink(1); tx.Put(2, old[1]); tx.Put(3, q) }, []api.Page{old[0], old[1], q}, []int{3}},
		{"shrinks and comes back as it was", func(tx *store.Tx) { tx.Shrink(0); tx.Put(1, old[0]); tx.Put(2, old[1]); tx.Put(3, old[2]) }, old, nil},
		{"shrinks and grows", func(tx *store.Tx) { tx.Shrink(2); tx.Put(3, p); tx.Put(4, old[2]) }, []api.Page{old[0], old[1], p, old[2]}, []int{3, 4}},
		{"shrinks and comes back in part", func(tx *store.Tx) { tx.Shrink(0); tx.Put(1, q); tx.Put(2, old[1]) }, []api.Page{q, old[1]}, []int{1}},
		{"back to a savepoint", func(tx *store.Tx) { tx.Put(1, p); n, _ := tx.Save(); tx.Put(2, q); tx.Shrink(1); tx.Back(n) }, []api.Page{p, old[1], old[2]}, []int{1}},
		{"a savepoint is let go", func(tx *store.Tx) { n, _ := tx.Save(); tx.Put(2, q); tx.Release(n) }, []api.Page{old[0], q, old[2]}, []int{2}},
		{"all taken back", func(tx *store.Tx) { n, _ := tx.Save(); tx.Put(4, q); tx.Put(1, q); tx.Back(n) }, old, nil},
	}
}

// by makes on another disk the commit that a transaction's is to be.
func by(d *disk.Disk, log bool, now []api.Page, at []int) api.Errno {
	var pages []api.PageAt
	for _, n := range at {
		pages = append(pages, api.PageAt{N: n, P: now[n-1]})
	}
	if !log {
		return journal.Commit(d, len(now), pages)
	}
	_, e := wal.Commit(d, len(now), pages)
	return e
}

// A commit is layer 6's, or layer 7's, of the count and of the pages that are other ones than when it began.
func TestP96Commit(t *testing.T) {
	eachWay(t, func(t *testing.T, log bool) {
		for _, c := range changes() {
			d, s := with(t, log, some(1, 3))
			twin := d.Copy()
			tx := writing(t, s, 3)
			c.do(tx)
			sees(t, c.what, tx, c.now)
			sameFiles(t, c.what+", ahead of the commit", d, twin)
			want(t, c.what, tx.Commit(), api.OK)
			want(t, c.what, by(twin, log, c.now, c.at), api.OK)
			sameFiles(t, c.what, d, twin)
			refusesTx(t, c.what, tx, api.ErrOver)
			holds(t, c.what, s, nil, nil)
			sees(t, c.what, begun(t, s, 3), c.now)
			isDatabase(t, c.what, d, c.now)
		}
	})
}

// One that only reads commits nothing, whoever else is there, on a disk that would crash and has no room.
func TestP96Reads(t *testing.T) {
	eachWay(t, func(t *testing.T, log bool) {
		d, s := with(t, log, some(1, 3))
		a, b := begun(t, s, 0), begun(t, s, 1)
		w := writing(t, s, 2)
		if _, e := a.Save(); e != api.OK {
			t.Fatal(e)
		}
		same := d.Copy()
		d.SetRoom(0)
		d.CrashIn(1)
		want(t, "Commit", a.Commit(), api.OK)
		refusesTx(t, "behind Commit", a, api.ErrOver)
		want(t, "Rollback", b.Rollback(), api.OK)
		refusesTx(t, "behind Rollback", b, api.ErrOver)
		holds(t, "behind both", s, []int{2}, []int{2})
		sameFiles(t, "one that reads", d, same)
		sees(t, "one that writes", w, some(1, 3))
	})
}

// By the journal a commit waits till the others are over; one that waits goes on as it was.
func TestP96Busy(t *testing.T) {
	d, s := with(t, false, some(1, 3))
	a := writing(t, s, 0)
	b, c := begun(t, s, 1), begun(t, s, 7)
	now := append(some(1, 2), filled(60), filled(70))
	fill(t, a, now)
	n, e := a.Save()
	want(t, "Save", e, api.OK)
	for range 2 {
		same := d.Copy()
		want(t, "others read", a.Commit(), api.ErrBusy)
		sameFiles(t, "others read", d, same)
		holds(t, "others read", s, []int{0, 1, 7}, []int{0})
		sees(t, "it goes on", a, now)
		sees(t, "another one", b, some(1, 3))
	}
	want(t, "it goes on writing", a.Put(1, filled(50)), api.OK)
	want(t, "its savepoint is there", a.Back(n), api.OK)
	sees(t, "back", a, now)
	late := begun(t, s, 4)
	sees(t, "one that began behind it", late, some(1, 3))
	want(t, "Commit", b.Commit(), api.OK)
	want(t, "one reads still", a.Commit(), api.ErrBusy)
	want(t, "Rollback", c.Rollback(), api.OK)
	want(t, "one reads still", a.Commit(), api.ErrBusy)
	want(t, "Rollback", late.Rollback(), api.OK)
	want(t, "nobody reads", a.Commit(), api.OK)
	holds(t, "behind it", s, nil, nil)
	isDatabase(t, "behind it", d, now)
}

// By the log nobody waits, and each sees what was there when it began.
func TestP96Log(t *testing.T) {
	_, s := with(t, true, some(1, 3))
	var txs []*store.Tx
	var wanted [][]api.Page
	now := some(1, 3)
	for c := range 7 {
		tx := begun(t, s, c)
		txs, wanted = append(txs, tx), append(wanted, slices.Clone(now))
		now = append(now[:max(0, 3-c)], some(byte(40+c), c)...)
		commit(t, s, now)
		for c, tx := range txs {
			sees(t, "whatever comes", tx, wanted[c])
		}
	}
	sees(t, "the last one", begun(t, s, 7), now)
}

func TestP96Full(t *testing.T) {
	eachWay(t, func(t *testing.T, log bool) {
		fulls := 0
		for _, c := range changes() {
			d, s := with(t, log, some(1, 3))
			twin := d.Copy()
			tx := writing(t, s, 3)
			save, e := tx.Save()
			want(t, "Save", e, api.OK)
			c.do(tx)
			used := d.Len("db") + d.Len("wal") + d.Len("journal")
			for room := used - 100; ; room += 40 {
				d.SetRoom(room)
				twin.SetRoom(room)
				e := tx.Commit()
				want(t, c.what, by(twin, log, c.now, c.at), e)
				sameFiles(t, c.what, d, twin)
				if e == api.OK {
					break
				}
				fulls++
				want(t, c.what, e, api.ErrFull)
				sees(t, c.what+", full", tx, c.now)
				holds(t, c.what+", full", s, []int{3}, []int{3})
				if !tx.Writes() || tx.Over() {
					t.Fatalf("%s: writes %v, over %v", c.what, tx.Writes(), tx.Over())
				}
				isDatabase(t, c.what+", full", d, some(1, 3))
				if room < used {
					continue
				}
				want(t, "Put", tx.Put(1, filled(250)), api.OK)
				want(t, "its savepoint is there", tx.Back(save), api.OK)
				sees(t, "back", tx, some(1, 3))
				c.do(tx)
			}
			isDatabase(t, c.what, d, c.now)
		}
		if fulls < 20 {
			t.Errorf("so few full disks: %d", fulls)
		}
	})
}

// A commit that was refused for want of room can be rolled back as well.
func TestP96FullThenRollback(t *testing.T) {
	eachWay(t, func(t *testing.T, log bool) {
		d, s := with(t, log, some(1, 3))
		tx := writing(t, s, 0)
		fill(t, tx, some(80, 9))
		d.SetRoom(0)
		want(t, "Commit", tx.Commit(), api.ErrFull)
		want(t, "Rollback", tx.Rollback(), api.OK)
		refusesTx(t, "rolled back", tx, api.ErrOver)
		holds(t, "rolled back", s, nil, nil)
		sees(t, "rolled back", begun(t, s, 0), some(1, 3))
		isDatabase(t, "rolled back", d, some(1, 3))
	})
}

func TestP96Rollback(t *testing.T) {
	eachWay(t, func(t *testing.T, log bool) {
		for _, c := range changes() {
			d, s := with(t, log, some(1, 3))
			same := d.Copy()
			d.CrashIn(1)
			tx := writing(t, s, 3)
			c.do(tx)
			other := begun(t, s, 4)
			want(t, c.what, tx.Rollback(), api.OK)
			refusesTx(t, c.what, tx, api.ErrOver)
			if log {
				holds(t, c.what, s, nil, nil)
			} else {
				holds(t, c.what, s, []int{4}, nil)
			}
			sameFiles(t, c.what, d, same)
			sees(t, c.what, other, some(1, 3))
			want(t, c.what, other.Write(), api.OK)
			sees(t, c.what, begun(t, s, 3), some(1, 3))
		}
	})
}

// A hot journal that somebody laid behind a store's back is in the way of a commit, which changes nothing.
func TestP96HotBehind(t *testing.T) {
	d, s := with(t, false, some(1, 3))
	tx := writing(t, s, 0)
	want(t, "Put", tx.Put(1, filled(80)), api.OK)
	was := read(d, "journal")
	laid(d, "journal", sealed(api.Words{1, 3, 0, 0}))
	want(t, "Commit", tx.Commit(), api.ErrBusy)
	holds(t, "it goes on", s, []int{0}, []int{0})
	other := begun(t, s, 1)
	want(t, "Rollback", other.Rollback(), api.OK)
	laid(d, "journal", was)
	want(t, "Commit", tx.Commit(), api.OK)
	isDatabase(t, "committed", d, append([]api.Page{filled(80)}, some(1, 3)[1:]...))
}
