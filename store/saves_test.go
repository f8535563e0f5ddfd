package store_test

import (
	"math"
	"math/rand"
	"slices"
	"testing"

	"bureau/api"
	"bureau/store"
)

// save makes a savepoint, which has that number.
func save(t *testing.T, tx *store.Tx, wanted int) {
	t.Helper()
	if n, e := tx.Save(); n != wanted || e != api.OK {
		t.Fatalf("Save: %d %v, not %d", n, e, wanted)
	}
}

// noSaves fails the test unless there are just the savepoints up to that number.
func noSaves(t *testing.T, tx *store.Tx, above int) {
	t.Helper()
	for _, n := range []int{math.MinInt, math.MinInt32, -1, 0, above + 1, above + 2, 1 << 32, 1<<32 + 1, math.MaxInt} {
		want(t, "Back to no savepoint", tx.Back(n), api.ErrNone)
		want(t, "Release of no savepoint", tx.Release(n), api.ErrNone)
	}
}

func TestP95Saves(t *testing.T) {
	eachWay(t, func(t *testing.T, log bool) {
		d, s := with(t, log, some(1, 3))
		before := d.Steps()
		tx := writing(t, s, 0)
		noSaves(t, tx, 0)
		states := [][]api.Page{some(1, 3), some(40, 3), some(40, 5), some(70, 1), nil, some(90, 2)}
		all := func() {
			for i, state := range states {
				fill(t, tx, state)
				save(t, tx, i+1)
				sees(t, "a savepoint changes nothing", tx, state)
			}
			noSaves(t, tx, len(states))
		}
		for n := len(states); n >= 1; n-- {
			all()
			for range 2 {
				fill(t, tx, some(200, 4))
				want(t, "Back", tx.Back(n), api.OK)
				sees(t, "Back", tx, states[n-1])
				noSaves(t, tx, n)
			}
			fill(t, tx, some(200, 4))
			save(t, tx, n+1)
			want(t, "Release", tx.Release(n), api.OK)
			sees(t, "Release", tx, some(200, 4))
			noSaves(t, tx, n-1)
			for earlier := n - 1; earlier >= 1; earlier-- {
				want(t, "Back", tx.Back(earlier), api.OK)
				sees(t, "Back", tx, states[earlier-1])
				noSaves(t, tx, earlier)
			}
			if n > 1 {
				want(t, "Release", tx.Release(1), api.OK)
				sees(t, "Release", tx, states[0])
			}
			noSaves(t, tx, 0)
		}
		if d.Steps() != before {
			t.Error("steps were made")
		}
	})
}

// What comes behind Back to a savepoint does not change what the savepoint keeps, nor what an earlier one does.
func TestP95Keeps(t *testing.T) {
	eachWay(t, func(t *testing.T, log bool) {
		_, s := with(t, log, some(1, 3))
		tx := writing(t, s, 0)
		want(t, "Put", tx.Put(1, filled(50)), api.OK)
		save(t, tx, 1)
		save(t, tx, 2)
		kept := seen(t, tx)
		for i := range 3 {
			want(t, "Put", tx.Put(1, filled(byte(90+i))), api.OK)
			want(t, "Put", tx.Put(2, filled(byte(90+i))), api.OK)
			want(t, "Put", tx.Put(4, filled(byte(90+i))), api.OK)
			want(t, "Shrink", tx.Shrink(i), api.OK)
			want(t, "Back", tx.Back(2-i%2), api.OK)
			sees(t, "Back", tx, kept)
			if i%2 == 1 {
				save(t, tx, 2)
			}
		}
	})
}

// One that only reads has savepoints, too; behind Write it goes on writing, whatever savepoint it goes back to.
func TestP95Reads(t *testing.T) {
	eachWay(t, func(t *testing.T, log bool) {
		_, s := with(t, log, some(1, 3))
		tx := begun(t, s, 0)
		save(t, tx, 1)
		want(t, "Back", tx.Back(1), api.OK)
		sees(t, "Back", tx, some(1, 3))
		if tx.Writes() {
			t.Fatal("it writes")
		}
		want(t, "Write", tx.Write(), api.OK)
		fill(t, tx, some(30, 2))
		want(t, "Back", tx.Back(1), api.OK)
		sees(t, "Back", tx, some(1, 3))
		if !tx.Writes() {
			t.Fatal("it writes no more")
		}
		holds(t, "Back", s, []int{0}, []int{0})
		fill(t, tx, some(30, 2))
		want(t, "Release", tx.Release(1), api.OK)
		if !tx.Writes() {
			t.Fatal("it writes no more")
		}
		sees(t, "Release", tx, some(30, 2))
		want(t, "Put", tx.Put(3, filled(8)), api.OK)
	})
}

// Savepoints go with their transaction, and are no other one's.
func TestP95Own(t *testing.T) {
	eachWay(t, func(t *testing.T, log bool) {
		_, s := with(t, log, some(1, 3))
		a, b := writing(t, s, 0), begun(t, s, 1)
		save(t, a, 1)
		save(t, a, 2)
		noSaves(t, b, 0)
		save(t, b, 1)
		want(t, "Release", a.Release(1), api.OK)
		want(t, "the other one's", b.Back(1), api.OK)
		want(t, "Rollback", a.Rollback(), api.OK)
		next := begun(t, s, 0)
		noSaves(t, next, 0)
		save(t, next, 1)
	})
}

// Changes and savepoints taken at random, held against lists of pages.
func TestP95AgainstLists(t *testing.T) {
	eachWay(t, func(t *testing.T, log bool) {
		for seed := range int64(6) {
			r := rand.New(rand.NewSource(seed))
			d, s := with(t, log, some(1, 6))
			tx := writing(t, s, 0)
			now := some(1, 6)
			var saves [][]api.Page
			for range 400 {
				n := r.Intn(len(saves) + 2)
				none := n < 1 || n > len(saves)
				switch r.Intn(7) {
				case 0:
					saves = append(saves, slices.Clone(now))
					save(t, tx, len(saves))
				case 1:
					e := tx.Back(n)
					if none {
						want(t, "Back", e, api.ErrNone)
					} else {
						want(t, "Back", e, api.OK)
						now, saves = slices.Clone(saves[n-1]), saves[:n]
					}
				case 2:
					e := tx.Release(n)
					if none {
						want(t, "Release", e, api.ErrNone)
					} else {
						want(t, "Release", e, api.OK)
						saves = saves[:n-1]
					}
				case 3:
					now = now[:r.Intn(len(now)+1)]
					want(t, "Shrink", tx.Shrink(len(now)), api.OK)
				default:
					p := filled(byte(r.Intn(256)))
					n := 1 + r.Intn(len(now)+1)
					want(t, "Put", tx.Put(n, p), api.OK)
					now = slices.Clone(now)
					if n > len(now) {
						now = append(now, p)
					} else {
						now[n-1] = p
					}
				}
				sees(t, "at random", tx, now)
			}
			isDatabase(t, "ahead of the commit", d, some(1, 6))
			want(t, "Commit", tx.Commit(), api.OK)
			isDatabase(t, "committed", d, now)
		}
	})
}
