package store_test

import (
	"math/rand"
	"slices"
	"testing"

	"bureau/api"
	"bureau/disk"
)

// grounds are disks with the pages some(1, 3), of all sorts.
func grounds(t *testing.T) []*disk.Disk {
	t.Helper()
	db := disk.New(plenty)
	laid(db, "db", bytesOf(some(1, 3)))
	byJournal, _ := with(t, false, some(1, 3))
	byLog, s := with(t, true, some(50, 4))
	commit(t, s, some(1, 3))
	home := byLog.Copy()
	s = opened(t, home, true)
	checkpoint(t, "nobody reads", s, true)
	return []*disk.Disk{db, byJournal, byLog, home}
}

// Wherever a commit crashes, and whatever survives, a store that is opened by either way has what there was or what the commit was to make, and what was answered OK stays.
func TestP98Crash(t *testing.T) {
	eachWay(t, func(t *testing.T, log bool) {
		r := rand.New(rand.NewSource(98))
		for _, ground := range grounds(t) {
			for _, c := range changes() {
				old, made := 0, 0
				for n := 1; ; n++ {
					d := ground.Copy()
					s := opened(t, d, log)
					other := begun(t, s, 5)
					if !log {
						want(t, "Rollback", other.Rollback(), api.OK)
					}
					tx := writing(t, s, 0)
					c.do(tx)
					d.CrashIn(n)
					e := tx.Commit()
					if e == api.OK {
						d.Crash()
					}
					refuses(t, c.what, s, api.ErrOver)
					refusesTx(t, c.what, tx, api.ErrOver)
					refusesTx(t, c.what, other, api.ErrOver)
					for _, choices := range manyChoices(r, d.Pending()) {
						one := d.Copy()
						want(t, "Restart", one.Restart(choices), api.OK)
						got := database(t, one, r.Intn(2) == 0)
						isDatabase(t, c.what, one, got)
						if e != api.OK && slices.Equal(got, some(1, 3)) {
							old++
						} else if slices.Equal(got, c.now) {
							made++
						} else {
							t.Fatalf("%s: a crash at %d, %v: %d pages, neither the old nor the new ones", c.what, n, choices, len(got))
						}
					}
					if e == api.OK {
						break
					}
					want(t, c.what, e, api.ErrOver)
				}
				if old+made < 50 || made == 0 || old == 0 {
					t.Errorf("%s: %d old, %d new", c.what, old, made)
				}
			}
		}
	})
}

// A crash ahead of the commit leaves nothing of a transaction.
func TestP98CrashAheadOfCommit(t *testing.T) {
	eachWay(t, func(t *testing.T, log bool) {
		for _, c := range changes() {
			d, s := with(t, log, some(1, 3))
			tx := writing(t, s, 0)
			c.do(tx)
			d.Crash()
			want(t, "Commit", tx.Commit(), api.ErrOver)
			want(t, "Restart", d.Restart(slices.Repeat([]int{1}, 99)), api.OK)
			want(t, "Commit", tx.Commit(), api.ErrOver)
			isDatabase(t, c.what, d, some(1, 3))
		}
	})
}

// A rollback, and Back with nothing behind it, leave nothing: the files are those on which nothing was done.
func TestP98LeavesNothing(t *testing.T) {
	eachWay(t, func(t *testing.T, log bool) {
		for _, c := range changes() {
			d, s := with(t, log, some(1, 3))
			twin := d.Copy()
			tx := writing(t, s, 0)
			save(t, tx, 1)
			c.do(tx)
			want(t, "Back", tx.Back(1), api.OK)
			want(t, "Commit", tx.Commit(), api.OK)
			want(t, "a commit of nothing", by(twin, log, some(1, 3), nil), api.OK)
			sameFiles(t, c.what, d, twin)
			tx = writing(t, s, 0)
			c.do(tx)
			want(t, "Rollback", tx.Rollback(), api.OK)
			sameFiles(t, c.what, d, twin)
			tx = writing(t, s, 1)
			sees(t, c.what, tx, some(1, 3))
		}
	})
}
