package store_test

import (
	"math"
	"math/rand"
	"slices"
	"strings"
	"testing"

	"bureau/api"
	"bureau/disk"
	"bureau/store"
)

const plenty = 1 << 24

// want ends the test unless a call answered that error: loops that go on till there is none end by it.
func want(t *testing.T, what string, got, wanted api.Errno) {
	t.Helper()
	if got != wanted {
		t.Fatalf("%s: %v, not %v", what, got, wanted)
	}
}

// eachWay runs a test by the journal and by the log.
func eachWay(t *testing.T, test func(t *testing.T, log bool)) {
	t.Helper()
	t.Run("journal", func(t *testing.T) { test(t, false) })
	t.Run("log", func(t *testing.T) { test(t, true) })
}

// filled is a page of one byte, but for its first and its last one: what is taken from a wrong place is to be seen.
func filled(b byte) api.Page {
	var p api.Page
	for i := range p {
		p[i] = b
	}
	p[0], p[255] = b+1, b+2
	return p
}

// some is n pages, with bytes of their own.
func some(b byte, n int) []api.Page {
	var pages []api.Page
	for i := range n {
		pages = append(pages, filled(b+byte(3*i)))
	}
	return pages
}

// opened is a store on a disk.
func opened(t *testing.T, d *disk.Disk, log bool) *store.Store {
	t.Helper()
	s, e := store.Open(d, log)
	want(t, "Open", e, api.OK)
	return s
}

func begun(t *testing.T, s *store.Store, c int) *store.Tx {
	t.Helper()
	tx, e := s.Begin(c)
	want(t, "Begin", e, api.OK)
	return tx
}

// writing is a transaction that writes.
func writing(t *testing.T, s *store.Store, c int) *store.Tx {
	t.Helper()
	tx := begun(t, s, c)
	want(t, "Write", tx.Write(), api.OK)
	return tx
}

// fill makes pages those of a transaction, one behind the other.
func fill(t *testing.T, tx *store.Tx, pages []api.Page) {
	t.Helper()
	want(t, "Shrink", tx.Shrink(min(tx.Count(), len(pages))), api.OK)
	for i, p := range pages {
		want(t, "Put", tx.Put(i+1, p), api.OK)
	}
}

// commit makes pages the database, by the connection 7.
func commit(t *testing.T, s *store.Store, pages []api.Page) {
	t.Helper()
	tx := writing(t, s, 7)
	fill(t, tx, pages)
	want(t, "Commit", tx.Commit(), api.OK)
}

// with is a disk with room, and a store on it, with those pages.
func with(t *testing.T, log bool, pages []api.Page) (*disk.Disk, *store.Store) {
	t.Helper()
	d := disk.New(plenty)
	s := opened(t, d, log)
	commit(t, s, pages)
	return d, s
}

// seen is a transaction's pages, as Count and Page tell them.
func seen(t *testing.T, tx *store.Tx) []api.Page {
	t.Helper()
	var pages []api.Page
	for n := 1; n <= tx.Count(); n++ {
		p, e := tx.Page(n)
		want(t, "Page", e, api.OK)
		pages = append(pages, p)
	}
	return pages
}

// sees fails the test unless a transaction has just those pages.
func sees(t *testing.T, what string, tx *store.Tx, pages []api.Page) {
	t.Helper()
	if got := seen(t, tx); !slices.Equal(got, pages) {
		t.Fatalf("%s: %d pages, not the %d that are to be", what, len(got), len(pages))
	}
	for _, n := range []int{math.MinInt, -1, 0, len(pages) + 1, len(pages) + 2, api.MaxPages + 1, math.MaxInt} {
		if p, e := tx.Page(n); e != api.ErrNone || p != (api.Page{}) {
			t.Fatalf("%s: the page %d of %d: %v", what, n, len(pages), e)
		}
	}
}

// database is what a new transaction sees, in a store that is opened on a copy of the disk.
func database(t *testing.T, d *disk.Disk, log bool) []api.Page {
	t.Helper()
	d = d.Copy()
	d.SetRoom(plenty)
	d.CrashIn(0)
	return seen(t, begun(t, opened(t, d, log), 0))
}

// isDatabase fails the test unless a store that is opened by either way has those pages.
func isDatabase(t *testing.T, what string, d *disk.Disk, pages []api.Page) {
	t.Helper()
	for _, log := range []bool{false, true} {
		if got := database(t, d, log); !slices.Equal(got, pages) {
			t.Fatalf("%s: opened by the log: %v: %d pages, not the %d that are to be", what, log, len(got), len(pages))
		}
	}
}

// holds fails the test unless just these hold each lock.
func holds(t *testing.T, what string, s *store.Store, shared, reserved []int) {
	t.Helper()
	for _, h := range []struct {
		lock api.Lock
		who  []int
	}{
		{api.LockNone, []int{0, 1, 2, 3, 4, 5, 6, 7}},
		{api.LockShared, shared},
		{api.LockReserved, reserved},
		{api.LockExclusive, nil},
		{-1, nil},
		{api.LockExclusive + 1, nil},
	} {
		if got := s.Holders(h.lock); !slices.Equal(got, h.who) {
			t.Fatalf("%s: holders of %d: %v, not %v", what, h.lock, got, h.who)
		}
	}
}

// noStores is what stands for a store that is not there.
func noStores() []*store.Store { return []*store.Store{nil, {}} }

// noTxs is what stands for a transaction that is not there.
func noTxs() []*store.Tx { return []*store.Tx{nil, {}} }

// refuses fails the test unless all calls of a store answer that error, and nothing else.
func refuses(t *testing.T, what string, s *store.Store, wanted api.Errno) {
	t.Helper()
	for _, c := range []int{math.MinInt, -1, 0, 7, 8, math.MaxInt} {
		if tx, e := s.Begin(c); tx != nil || e != wanted {
			t.Fatalf("%s: Begin(%d): %v %v", what, c, tx, e)
		}
	}
	if empty, e := s.Checkpoint(); empty || e != wanted {
		t.Fatalf("%s: Checkpoint: %v %v", what, empty, e)
	}
	for l := api.LockNone - 1; l <= api.LockExclusive+1; l++ {
		if who := s.Holders(l); len(who) != 0 {
			t.Fatalf("%s: holders of %d: %v", what, l, who)
		}
	}
	if s.Over() != (wanted == api.ErrOver) {
		t.Fatalf("%s: over: %v", what, s.Over())
	}
}

// refusesTx fails the test unless all calls of a transaction answer that error, and nothing else.
func refusesTx(t *testing.T, what string, tx *store.Tx, wanted api.Errno) {
	t.Helper()
	for _, n := range []int{math.MinInt, -1, 0, 1, 2, api.MaxPages + 1, math.MaxInt} {
		if p, e := tx.Page(n); p != (api.Page{}) || e != wanted {
			t.Fatalf("%s: Page(%d): %v", what, n, e)
		}
		want(t, what+": Put", tx.Put(n, filled(9)), wanted)
		want(t, what+": Shrink", tx.Shrink(n), wanted)
		want(t, what+": Back", tx.Back(n), wanted)
		want(t, what+": Release", tx.Release(n), wanted)
	}
	want(t, what+": Write", tx.Write(), wanted)
	if n, e := tx.Save(); n != 0 || e != wanted {
		t.Fatalf("%s: Save: %d %v", what, n, e)
	}
	want(t, what+": Commit", tx.Commit(), wanted)
	want(t, what+": Rollback", tx.Rollback(), wanted)
	if tx.Count() != 0 || tx.Writes() || tx.Over() != (wanted == api.ErrOver) {
		t.Fatalf("%s: count %d, writes %v, over %v", what, tx.Count(), tx.Writes(), tx.Over())
	}
}

// read is the file's bytes.
func read(d *disk.Disk, name string) string {
	s, _ := d.Read(name, 0, math.MaxInt)
	return s
}

// laid lays a file down and syncs it.
func laid(d *disk.Disk, name, bytes string) {
	d.Truncate(name, 0)
	d.Write(name, 0, bytes)
	d.Sync(name)
}

// sealed is a sealed sector's bytes.
func sealed(w api.Words) string {
	s := disk.Seal(w)
	return string(s[:])
}

func bytesOf(pages []api.Page) string {
	var s strings.Builder
	for _, p := range pages {
		s.Write(p[:])
	}
	return s.String()
}

// sameFiles fails the test unless two disks have made as many steps, and the same is to be seen on them.
func sameFiles(t *testing.T, what string, got, wanted *disk.Disk) {
	t.Helper()
	if got.Steps() != wanted.Steps() || got.Pending() != wanted.Pending() || got.Down() != wanted.Down() {
		t.Fatalf("%s: steps %d, pending %d, down %v, not %d, %d, %v", what, got.Steps(), got.Pending(), got.Down(), wanted.Steps(), wanted.Pending(), wanted.Down())
	}
	if !slices.Equal(got.Names(), wanted.Names()) {
		t.Fatalf("%s: files %q, not %q", what, got.Names(), wanted.Names())
	}
	for _, name := range wanted.Names() {
		if read(got, name) != read(wanted, name) {
			t.Fatalf("%s: the file %s is another one", what, name)
		}
	}
}

// torn is choices taken at random: lost, made, torn anywhere.
func torn(r *rand.Rand, n int) []int {
	choices := make([]int, n)
	for i := range choices {
		choices[i] = []int{0, 1, 2 + r.Intn(63)}[r.Intn(3)]
	}
	return choices
}

// manyChoices is what may survive of n changes: all lost, all made, each alone, all but each, and some taken at random; of one change every tear.
func manyChoices(r *rand.Rand, n int) [][]int {
	all := [][]int{nil, slices.Repeat([]int{1}, n)}
	for i := range n {
		alone, butOne := make([]int, n), slices.Repeat([]int{1}, n)
		alone[i], butOne[i] = 2+r.Intn(63), 2+r.Intn(63)
		all = append(all, alone, butOne)
	}
	for range 4 {
		all = append(all, torn(r, n))
	}
	if n == 1 {
		for k := range 65 {
			all = append(all, []int{k})
		}
	}
	return all
}
