package tree_test

import (
	"math"
	"slices"
	"testing"

	"bureau/api"
	"bureau/disk"
	"bureau/space"
	"bureau/store"
	"bureau/tree"
)

const (
	plenty = 1 << 24
	least  = math.MinInt64
	most   = math.MaxInt64
)

// edges are the lengths at which a row's data take another form.
var edges = []int{0, 1, 39, 40, 41, 127, 128, 280, 281, 3999, 4000}

// want ends the test unless a call answered that error.
func want(t *testing.T, what string, got, wanted api.Errno) {
	t.Helper()
	if got != wanted {
		t.Fatalf("%s: %v, not %v", what, got, wanted)
	}
}

// eachWay runs a test by the journal and by the log.
func eachWay(t *testing.T, test func(t *testing.T, log bool)) {
	t.Helper()
	t.Run("journal", func(t *testing.T) { test(t, false) })
	t.Run("log", func(t *testing.T) { test(t, true) })
}

// dataOf is data of so many bytes, no two of which that stand near each other are the same.
func dataOf(length, seed int) string {
	b := make([]byte, length)
	for i := range b {
		b[i] = byte(i*7 + i/240 + seed)
	}
	return string(b)
}

func fourBytes(n uint32) string {
	return string([]byte{byte(n >> 24), byte(n >> 16), byte(n >> 8), byte(n)})
}

// eightBytes is a row's number as a cell has it.
func eightBytes(key int64) string {
	u := uint64(key) ^ 1<<63
	return fourBytes(uint32(u>>32)) + fourBytes(uint32(u))
}

// raw is a page, byte by byte.
func raw(kind byte, link uint32, cells ...string) api.Page {
	p := api.Page{kind, byte(len(cells)), byte(link >> 24), byte(link >> 16), byte(link >> 8), byte(link)}
	at := 6 + len(cells)
	for i, cell := range cells {
		p[6+i] = byte(len(cell))
		at += copy(p[at:], cell)
	}
	return p
}

// leaf is a leaf with those cells, inner an inner page.
func leaf(cells ...string) api.Page { return raw(1, 0, cells...) }

func inner(last uint32, cells ...string) api.Page { return raw(2, last, cells...) }

// row is the cell of a row with short data, child that of a child.
func row(key int64, data string) string {
	return eightBytes(key) + string([]byte{byte(len(data))}) + data
}

func child(key int64, n uint32) string { return eightBytes(key) + fourBytes(n) }

// lengthBytes is the varint of a length below 2^14, by hand.
func lengthBytes(n int) string {
	if n < 128 {
		return string([]byte{byte(n)})
	}
	return string([]byte{0x80 | byte(n>>7), byte(n & 0x7f)})
}

// pagesFor is how many pages the chain of data has.
func pagesFor(length int) int { return (max(length-40, 0) + 239) / 240 }

// chainOf is the pages of the chain of data that lies in those pages, in its order.
func chainOf(data string, numbers ...int) []api.Page {
	var pages []api.Page
	for i := range numbers {
		link, piece := uint32(0), data[40+240*i:]
		if i+1 < len(numbers) {
			link, piece = uint32(numbers[i+1]), piece[:240]
		}
		var cells []string
		for c := range slices.Chunk([]byte(piece), 60) {
			cells = append(cells, string(c))
		}
		pages = append(pages, raw(5, link, cells...))
	}
	return pages
}

// lay puts the chain of data by hand into those pages of a list of pages, and answers the stub.
func lay(pages []api.Page, data string, numbers ...int) string {
	if len(numbers) == 0 {
		return lengthBytes(len(data)) + data
	}
	for i, p := range chainOf(data, numbers...) {
		pages[numbers[i]-1] = p
	}
	return lengthBytes(len(data)) + data[:40] + fourBytes(uint32(numbers[0]))
}

// firstPage is a first page, byte by byte.
func firstPage(link uint32) api.Page {
	cells := []string{"bureau 1"}
	for i := range uint32(8) {
		cells = append(cells, fourBytes(i*0x01010101))
	}
	return raw(0, link, cells...)
}

// used is a page that is in use by somebody else.
func used(n int) api.Page { return raw(3, 0, "key", string(rune('a'+n%26))) }

// database is the pages of a laid database, those of the list free, the others in use.
func database(count int, free ...int) []api.Page {
	pages := make([]api.Page, count)
	for n := 2; n <= count; n++ {
		pages[n-1] = used(n)
	}
	link := uint32(0)
	for _, n := range slices.Backward(free) {
		pages[n-1] = raw(0, link)
		link = uint32(n)
	}
	pages[0] = firstPage(link)
	return pages
}

// with is a list of pages with one of them another one.
func with(pages []api.Page, n int, p api.Page) []api.Page {
	changed := slices.Clone(pages)
	changed[n-1] = p
	return changed
}

// upTo is the numbers from one on up to another.
func upTo(from, to int) []int {
	var numbers []int
	for n := from; n <= to; n++ {
		numbers = append(numbers, n)
	}
	return numbers
}

func opened(t *testing.T, d *disk.Disk, log bool) *store.Store {
	t.Helper()
	s, e := store.Open(d, log)
	want(t, "Open", e, api.OK)
	return s
}

func reading(t *testing.T, s *store.Store) *store.Tx {
	t.Helper()
	tx, e := s.Begin(0)
	want(t, "Begin", e, api.OK)
	return tx
}

// writing is a transaction that writes.
func writing(t *testing.T, s *store.Store) *store.Tx {
	t.Helper()
	tx := reading(t, s)
	want(t, "Write", tx.Write(), api.OK)
	return tx
}

// having is a transaction that writes and has put those pages.
func having(t *testing.T, pages ...api.Page) *store.Tx {
	t.Helper()
	tx := writing(t, opened(t, disk.New(plenty), false))
	for i := range pages {
		if e := tx.Put(i+1, pages[i]); e != api.OK {
			t.Fatalf("Put of page %d: %v", i+1, e)
		}
	}
	return tx
}

// laid is a transaction that writes, in a database that it has laid.
func laid(t *testing.T, log bool) (*store.Store, *store.Tx) {
	t.Helper()
	s := opened(t, disk.New(plenty), log)
	tx := writing(t, s)
	want(t, "Lay", space.Lay(tx), api.OK)
	return s, tx
}

// planted is a new tree in a new database.
func planted(t *testing.T) (*store.Tx, int) {
	t.Helper()
	_, tx := laid(t, false)
	return tx, grown(t, tx)
}

// grown is a new tree.
func grown(t *testing.T, tx *store.Tx) int {
	t.Helper()
	root, e := tree.New(tx)
	want(t, "New", e, api.OK)
	return root
}

// seen is a transaction's pages.
func seen(t *testing.T, tx *store.Tx) []api.Page {
	t.Helper()
	pages := make([]api.Page, tx.Count())
	for i := range pages {
		var e api.Errno
		if pages[i], e = tx.Page(i + 1); e != api.OK {
			t.Fatalf("Page of %d: %v", i+1, e)
		}
	}
	return pages
}

// sees fails the test unless a transaction has just those pages.
func sees(t *testing.T, what string, tx *store.Tx, pages ...api.Page) {
	t.Helper()
	got := seen(t, tx)
	if len(got) != len(pages) {
		t.Fatalf("%s: %d pages, not %d", what, len(got), len(pages))
	}
	for i, p := range pages {
		if got[i] != p {
			t.Fatalf("%s: page %d is % x, not % x", what, i+1, got[i], p)
		}
	}
}

// frees fails the test unless just those pages are free, in any order.
func frees(t *testing.T, what string, tx *store.Tx, wanted ...int) {
	t.Helper()
	pages, e := space.Free(tx)
	slices.Sort(pages)
	if e != api.OK || !slices.Equal(pages, wanted) {
		t.Fatalf("%s: Free: %v %v, not %v", what, pages, e, wanted)
	}
}

// puts fails the test unless Put answers whether the row is new.
func puts(t *testing.T, tx *store.Tx, root int, key int64, data string, isNew bool) {
	t.Helper()
	if is, e := tree.Put(tx, root, key, data); is != isNew || e != api.OK {
		t.Fatalf("Put of %d with %d bytes: %v %v, not %v", key, len(data), is, e, isNew)
	}
}

func deletes(t *testing.T, tx *store.Tx, root int, key int64) {
	t.Helper()
	if e := tree.Delete(tx, root, key); e != api.OK {
		t.Fatalf("Delete of %d: %v", key, e)
	}
}

// all is what All tells.
func all(t *testing.T, tx *store.Tx, root int) []api.RowAt {
	t.Helper()
	rows, e := tree.All(tx, root)
	want(t, "All", e, api.OK)
	return slices.Collect(rows)
}

// tells fails the test unless All, Last, and Get and Seek at and around each row tell just those rows.
func tells(t *testing.T, tx *store.Tx, root int, rows ...api.RowAt) {
	t.Helper()
	if got := all(t, tx, root); !slices.Equal(got, rows) {
		t.Fatalf("All: %d rows, not the %d that there are", len(got), len(rows))
	}
	lastRow, wanted := api.RowAt{}, api.ErrNone
	if len(rows) > 0 {
		lastRow, wanted = rows[len(rows)-1], api.OK
	}
	if got, e := tree.Last(tx, root); got != lastRow || e != wanted {
		t.Fatalf("Last: %d %v, not %d", got.Key, e, lastRow.Key)
	}
	keys := []int64{least, least + 1, -1, 0, 1, most - 1, most}
	for _, r := range rows {
		keys = append(keys, r.Key, max(r.Key, least+1)-1, min(r.Key, most-1)+1)
	}
	for _, key := range keys {
		finds(t, tx, root, key, rows...)
	}
}

// finds fails the test unless Get and Seek of a number tell what is right among those rows.
func finds(t *testing.T, tx *store.Tx, root int, key int64, rows ...api.RowAt) {
	t.Helper()
	i := slices.IndexFunc(rows, func(r api.RowAt) bool { return r.Key >= key })
	first, data := api.RowAt{}, ""
	seeks, gets := api.ErrNone, api.ErrNone
	if i >= 0 {
		first, seeks = rows[i], api.OK
	}
	if i >= 0 && first.Key == key {
		data, gets = first.Data, api.OK
	}
	if got, e := tree.Get(tx, root, key); got != data || e != gets {
		t.Fatalf("Get of %d: %d bytes %v, not %d bytes %v", key, len(got), e, len(data), gets)
	}
	if got, e := tree.Seek(tx, root, key); got != first || e != seeks {
		t.Fatalf("Seek of %d: %d %v, not %d %v", key, got.Key, e, first.Key, seeks)
	}
}

// call is one of the functions with its arguments.
type call struct {
	name  string
	reads bool                                          // may one that only reads make it?
	walks bool                                          // does it meet all pages?
	does  func(tx *store.Tx) (answer bool, e api.Errno) // is there any answer beside the error?
}

func makes() call {
	return call{"New", false, false, func(tx *store.Tx) (bool, api.Errno) { n, e := tree.New(tx); return n != 0, e }}
}

func get(root int, key int64) call {
	return call{"Get", true, false, func(tx *store.Tx) (bool, api.Errno) { d, e := tree.Get(tx, root, key); return d != "", e }}
}

func seek(root int, key int64) call {
	return call{"Seek", true, false, func(tx *store.Tx) (bool, api.Errno) {
		r, e := tree.Seek(tx, root, key)
		return r != api.RowAt{}, e
	}}
}

func last(root int) call {
	return call{"Last", true, false, func(tx *store.Tx) (bool, api.Errno) {
		r, e := tree.Last(tx, root)
		return r != api.RowAt{}, e
	}}
}

func goesOver(root int) call {
	return call{"All", true, true, func(tx *store.Tx) (bool, api.Errno) { s, e := tree.All(tx, root); return s != nil, e }}
}

func put(root int, key int64, data string) call {
	return call{"Put", false, false, func(tx *store.Tx) (bool, api.Errno) { return tree.Put(tx, root, key, data) }}
}

func del(root int, key int64) call {
	return call{"Delete", false, false, func(tx *store.Tx) (bool, api.Errno) { return false, tree.Delete(tx, root, key) }}
}

func clears(root int) call {
	return call{"Clear", false, true, func(tx *store.Tx) (bool, api.Errno) { return false, tree.Clear(tx, root) }}
}

func drops(root int) call {
	return call{"Drop", false, true, func(tx *store.Tx) (bool, api.Errno) { return false, tree.Drop(tx, root) }}
}

func pagesOf(root int) call {
	return call{"Pages", true, true, func(tx *store.Tx) (bool, api.Errno) { l, e := tree.Pages(tx, root); return len(l) > 0, e }}
}

// walks is the calls that meet all pages, ofRoot all that are given a root, with such a number.
func walks(root int) []call { return []call{goesOver(root), pagesOf(root), clears(root), drops(root)} }

func ofKey(root int, key int64) []call {
	return []call{get(root, key), seek(root, key), put(root, key, "new"), put(root, key, dataOf(700, 1)), del(root, key)}
}

func ofRoot(root int, key int64) []call {
	return append(append(walks(root), ofKey(root, key)...), last(root))
}

// refuses fails the test unless a call answers that error, nothing beside it, and leaves the pages and the savepoints alone.
func refuses(t *testing.T, what string, tx *store.Tx, c call, wanted api.Errno) {
	t.Helper()
	before := seen(t, tx)
	if answer, e := c.does(tx); answer || e != wanted {
		t.Errorf("%s: %s: %v (an answer beside it: %v), not %v", what, c.name, e, answer, wanted)
	}
	if !slices.Equal(before, seen(t, tx)) {
		t.Errorf("%s: %s changed a page", what, c.name)
	}
	if tx.Release(1) == api.OK {
		t.Errorf("%s: %s left a savepoint", what, c.name)
	}
}
