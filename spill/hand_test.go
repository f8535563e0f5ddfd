package spill_test

import (
	"slices"
	"testing"

	"bureau/api"
	"bureau/disk"
	"bureau/space"
	"bureau/spill"
	"bureau/store"
)

const plenty = 1 << 24

// edges are the lengths at which a payload takes another form.
var edges = []int{0, 1, 39, 40, 41, 99, 100, 101, 127, 128, 160, 161, 220, 221, 279, 280, 281, 520, 521, 1000, 3999, 4000}

// want ends the test unless a call answered that error.
func want(t *testing.T, what string, got, wanted api.Errno) {
	t.Helper()
	if got != wanted {
		t.Fatalf("%s: %v, not %v", what, got, wanted)
	}
}

// eachWay runs a test by the journal and by the log.
func eachWay(t *testing.T, test func(t *testing.T, log bool)) {
	t.Helper()
	t.Run("journal", func(t *testing.T) { test(t, false) })
	t.Run("log", func(t *testing.T) { test(t, true) })
}

// payloadOf is a payload of so many bytes, no two of which that stand near each other are the same.
func payloadOf(length, seed int) string {
	b := make([]byte, length)
	for i := range b {
		b[i] = byte(i*7 + i/240 + seed)
	}
	return string(b)
}

func fourBytes(n uint32) string {
	return string([]byte{byte(n >> 24), byte(n >> 16), byte(n >> 8), byte(n)})
}

// lengthBytes is the varint of a length below 2^14, by hand.
func lengthBytes(n int) string {
	if n < 128 {
		return string([]byte{byte(n)})
	}
	return string([]byte{0x80 | byte(n>>7), byte(n & 0x7f)})
}

// raw is a page, byte by byte.
func raw(kind byte, link uint32, cells ...string) api.Page {
	p := api.Page{kind, byte(len(cells)), byte(link >> 24), byte(link >> 16), byte(link >> 8), byte(link)}
	at := 6 + len(cells)
	for i, cell := range cells {
		p[6+i] = byte(len(cell))
		at += copy(p[at:], cell)
	}
	return p
}

// cellsOf is the cells of a piece of a chain.
func cellsOf(piece string) []string {
	var cells []string
	for len(piece) > 60 {
		cells, piece = append(cells, piece[:60]), piece[60:]
	}
	return append(cells, piece)
}

// pagesFor is how many pages a payload's chain has.
func pagesFor(length int) int {
	n := 0
	for left := length - 40; left > 0; left -= 240 {
		n++
	}
	return n
}

// needing is the shortest payload whose chain has so many pages.
func needing(pages int) string { return payloadOf(40+240*(pages-1)+1, 9) }

// stubOf is a payload's stub, whose chain begins at that page.
func stubOf(payload string, first int) string {
	if len(payload) <= 40 {
		return lengthBytes(len(payload)) + payload
	}
	return lengthBytes(len(payload)) + payload[:40] + fourBytes(uint32(first))
}

// lay puts a payload's chain by hand into those pages of a list of pages, and answers its stub.
func lay(pages []api.Page, payload string, numbers ...int) string {
	if len(numbers) == 0 {
		return stubOf(payload, 0)
	}
	rest := payload[40:]
	for i, n := range numbers {
		link, piece := uint32(0), rest
		if i+1 < len(numbers) {
			link, piece = uint32(numbers[i+1]), rest[:240]
		}
		pages[n-1] = raw(5, link, cellsOf(piece)...)
		rest = rest[len(piece):]
	}
	return stubOf(payload, numbers[0])
}

// firstPage is a first page, byte by byte.
func firstPage(link uint32) api.Page {
	cells := []string{"bureau 1"}
	for i := range uint32(8) {
		cells = append(cells, fourBytes(i*0x01010101))
	}
	return raw(0, link, cells...)
}

// freeOf is a free page, byte by byte.
func freeOf(link uint32) api.Page { return raw(0, link) }

// used is a page that is in use.
func used(n int) api.Page { return raw(1, 0, "row", string(rune('a'+n%26))) }

// database is the pages of a laid database, those of the list free, the others in use.
func database(count int, free ...int) []api.Page {
	pages := []api.Page{firstPage(0)}
	for n := 2; n <= count; n++ {
		pages = append(pages, used(n))
	}
	link := uint32(0)
	for _, n := range slices.Backward(free) {
		pages[n-1] = freeOf(link)
		link = uint32(n)
	}
	pages[0] = firstPage(link)
	return pages
}

// with is a list of pages with one of them another one.
func with(pages []api.Page, n int, p api.Page) []api.Page {
	changed := slices.Clone(pages)
	changed[n-1] = p
	return changed
}

func opened(t *testing.T, d *disk.Disk, log bool) *store.Store {
	t.Helper()
	s, e := store.Open(d, log)
	want(t, "Open", e, api.OK)
	return s
}

func reading(t *testing.T, s *store.Store) *store.Tx {
	t.Helper()
	tx, e := s.Begin(0)
	want(t, "Begin", e, api.OK)
	return tx
}

// writing is a transaction that writes.
func writing(t *testing.T, s *store.Store) *store.Tx {
	t.Helper()
	tx := reading(t, s)
	want(t, "Write", tx.Write(), api.OK)
	return tx
}

// having is a transaction that writes and has put those pages.
func having(t *testing.T, pages ...api.Page) *store.Tx {
	t.Helper()
	tx := writing(t, opened(t, disk.New(plenty), false))
	for i, p := range pages {
		want(t, "Put", tx.Put(i+1, p), api.OK)
	}
	return tx
}

// laid is a transaction that writes, in a database that it has laid.
func laid(t *testing.T, log bool) (*store.Store, *store.Tx) {
	t.Helper()
	s := opened(t, disk.New(plenty), log)
	tx := writing(t, s)
	want(t, "Lay", space.Lay(tx), api.OK)
	return s, tx
}

// seen is a transaction's pages.
func seen(t *testing.T, tx *store.Tx) []api.Page {
	t.Helper()
	var pages []api.Page
	for n := 1; n <= tx.Count(); n++ {
		p, e := tx.Page(n)
		want(t, "Page", e, api.OK)
		pages = append(pages, p)
	}
	return pages
}

// sees fails the test unless a transaction has just those pages.
func sees(t *testing.T, what string, tx *store.Tx, pages ...api.Page) {
	t.Helper()
	got := seen(t, tx)
	if len(got) != len(pages) {
		t.Fatalf("%s: %d pages, not %d", what, len(got), len(pages))
	}
	for i, p := range pages {
		if got[i] != p {
			t.Fatalf("%s: page %d is % x, not % x", what, i+1, got[i], p)
		}
	}
}

// frees fails the test unless just those pages are free, in that order.
func frees(t *testing.T, what string, tx *store.Tx, wanted ...int) {
	t.Helper()
	if pages, e := space.Free(tx); e != api.OK || !slices.Equal(pages, wanted) {
		t.Fatalf("%s: Free: %v %v, not %v", what, pages, e, wanted)
	}
}

// puts fails the test unless Put answers that stub.
func puts(t *testing.T, tx *store.Tx, payload, stub string) {
	t.Helper()
	if s, e := spill.Put(tx, payload); s != stub || e != api.OK {
		t.Fatalf("Put of %d bytes: % x %v, not % x", len(payload), s, e, stub)
	}
}

// holds fails the test unless Get and Pages tell that payload, that number of bytes of its stub and that chain, also with more behind the stub.
func holds(t *testing.T, tx *store.Tx, stub, payload string, pages ...int) {
	t.Helper()
	for _, more := range []string{"", "\x00", "\x03abc", stub} {
		if p, n, e := spill.Get(tx, stub+more); p != payload || n != len(stub) || e != api.OK {
			t.Fatalf("Get of %d bytes: %d bytes, %d, %v", len(payload), len(p), n, e)
		}
		if l, e := spill.Pages(tx, stub+more); !slices.Equal(l, pages) || e != api.OK {
			t.Fatalf("Pages of %d bytes: %v %v, not %v", len(payload), l, e, pages)
		}
	}
}

func drops(t *testing.T, tx *store.Tx, stub string) {
	t.Helper()
	want(t, "Drop", spill.Drop(tx, stub), api.OK)
}

// call is one of the functions with its arguments.
type call struct {
	name  string
	reads bool                                          // may one that only reads make it?
	does  func(tx *store.Tx) (answer bool, e api.Errno) // is there any answer beside the error?
}

func put(payload string) call {
	return call{"Put", false, func(tx *store.Tx) (bool, api.Errno) { s, e := spill.Put(tx, payload); return s != "", e }}
}

func get(s string) call {
	return call{"Get", true, func(tx *store.Tx) (bool, api.Errno) {
		p, n, e := spill.Get(tx, s)
		return p != "" || n != 0, e
	}}
}

func pagesOf(s string) call {
	return call{"Pages", true, func(tx *store.Tx) (bool, api.Errno) { l, e := spill.Pages(tx, s); return len(l) > 0, e }}
}

func drop(s string) call {
	return call{"Drop", false, func(tx *store.Tx) (bool, api.Errno) { return false, spill.Drop(tx, s) }}
}

// refuses fails the test unless a call answers that error, nothing beside it, and leaves the pages and the savepoints alone.
func refuses(t *testing.T, what string, tx *store.Tx, c call, wanted api.Errno) {
	t.Helper()
	before := seen(t, tx)
	if answer, e := c.does(tx); answer || e != wanted {
		t.Errorf("%s: %s: %v (an answer beside it: %v), not %v", what, c.name, e, answer, wanted)
	}
	if !slices.Equal(before, seen(t, tx)) {
		t.Errorf("%s: %s changed a page", what, c.name)
	}
	if tx.Release(1) == api.OK {
		t.Errorf("%s: %s left a savepoint", what, c.name)
	}
}

// refusesStub fails the test unless a text is no stub of a chain for any of the calls that take one.
func refusesStub(t *testing.T, what string, tx *store.Tx, s string) {
	t.Helper()
	for _, c := range []call{get(s), pagesOf(s), drop(s)} {
		refuses(t, what, tx, c, api.ErrBad)
	}
}
