package space_test

import (
	"math"
	"slices"
	"testing"

	"bureau/api"
	"bureau/disk"
	"bureau/space"
	"bureau/store"
)

const plenty = 1 << 24

// want ends the test unless a call answered that error.
func want(t *testing.T, what string, got, wanted api.Errno) {
	t.Helper()
	if got != wanted {
		t.Fatalf("%s: %v, not %v", what, got, wanted)
	}
}

// eachWay runs a test by the journal and by the log.
func eachWay(t *testing.T, test func(t *testing.T, log bool)) {
	t.Helper()
	t.Run("journal", func(t *testing.T) { test(t, false) })
	t.Run("log", func(t *testing.T) { test(t, true) })
}

// raw is a page, byte by byte.
func raw(kind byte, link uint32, cells ...string) api.Page {
	p := api.Page{kind, byte(len(cells)), byte(link >> 24), byte(link >> 16), byte(link >> 8), byte(link)}
	at := 6 + len(cells)
	for i, cell := range cells {
		p[6+i] = byte(len(cell))
		at += copy(p[at:], cell)
	}
	return p
}

// firstCells is the cells of a first page, with those numbers.
func firstCells(numbers [8]uint32) []string {
	cells := []string{"bureau 1"}
	for _, n := range numbers {
		cells = append(cells, string([]byte{byte(n >> 24), byte(n >> 16), byte(n >> 8), byte(n)}))
	}
	return cells
}

// firstPage is a first page, byte by byte.
func firstPage(link uint32, numbers [8]uint32) api.Page { return raw(0, link, firstCells(numbers)...) }

// freeOf is a free page, byte by byte.
func freeOf(link uint32) api.Page { return raw(0, link) }

// used is a page that is in use.
func used(n int) api.Page { return raw(1, uint32(n), "row", string(rune('a'+n%26))) }

// opened is a store on a disk.
func opened(t *testing.T, d *disk.Disk, log bool) *store.Store {
	t.Helper()
	s, e := store.Open(d, log)
	want(t, "Open", e, api.OK)
	return s
}

func reading(t *testing.T, s *store.Store) *store.Tx {
	t.Helper()
	tx, e := s.Begin(0)
	want(t, "Begin", e, api.OK)
	return tx
}

// writing is a transaction that writes.
func writing(t *testing.T, s *store.Store) *store.Tx {
	t.Helper()
	tx := reading(t, s)
	want(t, "Write", tx.Write(), api.OK)
	return tx
}

// having is a transaction that writes and has put those pages.
func having(t *testing.T, pages ...api.Page) *store.Tx {
	t.Helper()
	tx := writing(t, opened(t, disk.New(plenty), false))
	for i, p := range pages {
		want(t, "Put", tx.Put(i+1, p), api.OK)
	}
	return tx
}

// laid is a transaction that writes, in a database that it has laid, with some pages taken.
func laid(t *testing.T, log bool, taken int) (*store.Store, *store.Tx) {
	t.Helper()
	s := opened(t, disk.New(plenty), log)
	tx := writing(t, s)
	want(t, "Lay", space.Lay(tx), api.OK)
	for i := range taken {
		takes(t, tx, i+2)
	}
	return s, tx
}

// seen is a transaction's pages.
func seen(t *testing.T, tx *store.Tx) []api.Page {
	t.Helper()
	var pages []api.Page
	for n := 1; n <= tx.Count(); n++ {
		p, e := tx.Page(n)
		want(t, "Page", e, api.OK)
		pages = append(pages, p)
	}
	return pages
}

// sees fails the test unless a transaction has just those pages.
func sees(t *testing.T, what string, tx *store.Tx, pages ...api.Page) {
	t.Helper()
	got := seen(t, tx)
	if len(got) != len(pages) {
		t.Fatalf("%s: %d pages, not %d", what, len(got), len(pages))
	}
	for i, p := range pages {
		if got[i] != p {
			t.Fatalf("%s: page %d is % x, not % x", what, i+1, got[i], p)
		}
	}
}

// takes fails the test unless Take answers that page.
func takes(t *testing.T, tx *store.Tx, wanted int) {
	t.Helper()
	if n, e := space.Take(tx); n != wanted || e != api.OK {
		t.Fatalf("Take: %d %v, not %d", n, e, wanted)
	}
}

// gives fails the test unless each of the pages can be given.
func gives(t *testing.T, tx *store.Tx, pages ...int) {
	t.Helper()
	for _, n := range pages {
		if e := space.Give(tx, n); e != api.OK {
			t.Fatalf("Give %d: %v", n, e)
		}
	}
}

// frees fails the test unless just those pages are free, in that order.
func frees(t *testing.T, what string, tx *store.Tx, wanted ...int) {
	t.Helper()
	if pages, e := space.Free(tx); e != api.OK || !slices.Equal(pages, wanted) {
		t.Fatalf("%s: Free: %v %v, not %v", what, pages, e, wanted)
	}
}

// numbersAre fails the test unless those are the numbers.
func numbersAre(t *testing.T, what string, tx *store.Tx, numbers [8]uint32) {
	t.Helper()
	for i, wanted := range numbers {
		if n, e := space.Get(tx, i); n != wanted || e != api.OK {
			t.Fatalf("%s: number %d: %d %v, not %d", what, i, n, e, wanted)
		}
	}
}

// call is one of the functions with its arguments.
type call struct {
	name  string
	reads bool                                          // may one that only reads make it?
	does  func(tx *store.Tx) (answer bool, e api.Errno) // is there any answer beside the error?
}

func lay() call {
	return call{"Lay", false, func(tx *store.Tx) (bool, api.Errno) { return false, space.Lay(tx) }}
}

func isLaid() call {
	return call{"Laid", true, func(tx *store.Tx) (bool, api.Errno) { return false, space.Laid(tx) }}
}

func get(i int) call {
	return call{"Get", true, func(tx *store.Tx) (bool, api.Errno) { n, e := space.Get(tx, i); return n != 0, e }}
}

func set(i int) call {
	return call{"Set", false, func(tx *store.Tx) (bool, api.Errno) { return false, space.Set(tx, i, 5) }}
}

func take() call {
	return call{"Take", false, func(tx *store.Tx) (bool, api.Errno) { n, e := space.Take(tx); return n != 0, e }}
}

func give(n int) call {
	return call{"Give", false, func(tx *store.Tx) (bool, api.Errno) { return false, space.Give(tx, n) }}
}

func allFree() call {
	return call{"Free", true, func(tx *store.Tx) (bool, api.Errno) { l, e := space.Free(tx); return len(l) != 0, e }}
}

// calls is all functions, with arguments that may be and with those that may not.
func calls() []call {
	all := []call{lay(), isLaid(), take(), allFree()}
	for _, n := range []int{math.MinInt, -1, 0, 1, 2, 7, 8, 9, math.MaxInt} {
		all = append(all, get(n), set(n), give(n))
	}
	return all
}

// refuses fails the test unless a call answers that error, nothing beside it, and leaves the pages alone.
func refuses(t *testing.T, what string, tx *store.Tx, c call, wanted api.Errno) {
	t.Helper()
	before := seen(t, tx)
	if answer, e := c.does(tx); answer || e != wanted {
		t.Errorf("%s: %s: %v (an answer beside it: %v), not %v", what, c.name, e, answer, wanted)
	}
	if !slices.Equal(before, seen(t, tx)) {
		t.Errorf("%s: %s changed a page", what, c.name)
	}
}
