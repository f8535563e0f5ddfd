package keys_test

import (
	"slices"
	"strconv"
	"strings"
	"testing"

	"bureau/api"
	"bureau/disk"
	"bureau/keys"
	"bureau/record"
	"bureau/space"
	"bureau/store"
)

const plenty = 1 << 24

// edges are the lengths of records at which a cell takes another form.
var edges = []int{1, 2, 39, 40, 41, 127, 128, 280, 281, 3999, 4000}

// want ends the test unless a call answered that error.
func want(t *testing.T, what string, got, wanted api.Errno) {
	t.Helper()
	if got != wanted {
		t.Fatalf("%s: %v, not %v", what, got, wanted)
	}
}

// eachWay runs a test by the journal and by the log.
func eachWay(t *testing.T, test func(t *testing.T, log bool)) {
	t.Helper()
	t.Run("journal", func(t *testing.T) { test(t, false) })
	t.Run("log", func(t *testing.T) { test(t, true) })
}

// key is a row of values: of an int an integer, of a string a text, of bytes a blob, of nil NULL.
func key(values ...any) []api.Value {
	row := []api.Value{}
	for _, v := range values {
		switch x := v.(type) {
		case nil:
			row = append(row, api.Value{})
		case int:
			row = append(row, api.Value{Kind: api.KindInt, Int: int64(x)})
		case string:
			row = append(row, api.Value{Kind: api.KindText, Text: x})
		case []byte:
			row = append(row, api.Value{Kind: api.KindBlob, Text: string(x)})
		}
	}
	return row
}

// ints is keys of an integer each.
func ints(numbers ...int) [][]api.Value {
	var rows [][]api.Value
	for _, n := range numbers {
		rows = append(rows, key(n))
	}
	return rows
}

// sized is a key whose record has so many bytes: 1, 2, or at least 10. Those of one size rise with their seeds, by what stands at their ends: long ones differ in their chains alone.
func sized(size, seed int) []api.Value {
	if size < 3 {
		return [][]api.Value{1: key(), 2: key(nil)}[size]
	}
	return filled(key(), size-1, strconv.Itoa(100000+seed))
}

// numbered is a key of an integer from 2 to 127, and of texts that fill up its record to so many bytes, at least 10.
func numbered(n, size int) []api.Value { return filled(key(n), size-3, "!") }

// filled is a row with texts more, that take so many bytes of its record, the last of them with a tail.
func filled(row []api.Value, left int, tail string) []api.Value {
	for left > 402+12 {
		row, left = append(row, key(strings.Repeat("x", 400))...), left-402
	}
	if left > 402 {
		row, left = append(row, key(strings.Repeat("y", 300))...), left-302
	}
	if left == 59 { // no text has so many bytes with its type
		row, left = append(row, key(nil)...), left-1
	}
	if left > 58 { // a type of two bytes
		left--
	}
	return append(row, key(strings.Repeat("z", left-1-len(tail))+tail)...)
}

// recordOf is a key's record.
func recordOf(key []api.Value) string {
	s, e := record.Encode(key)
	if e != api.OK {
		panic(e)
	}
	return s
}

func fourBytes(n uint32) string {
	return string([]byte{byte(n >> 24), byte(n >> 16), byte(n >> 8), byte(n)})
}

// raw is a page, byte by byte.
func raw(kind byte, link uint32, cells ...string) api.Page {
	p := api.Page{kind, byte(len(cells)), byte(link >> 24), byte(link >> 16), byte(link >> 8), byte(link)}
	at := 6 + len(cells)
	for i, cell := range cells {
		p[6+i] = byte(len(cell))
		at += copy(p[at:], cell)
	}
	return p
}

// leaf is a leaf with those cells, inner an inner page.
func leaf(cells ...string) api.Page { return raw(3, 0, cells...) }

func inner(last uint32, cells ...string) api.Page { return raw(4, last, cells...) }

// short is the cell of a key whose record has no chain, child that of a child with such a key.
func short(key []api.Value) string {
	s := recordOf(key)
	return string([]byte{byte(len(s))}) + s
}

func child(n uint32, key []api.Value) string { return fourBytes(n) + short(key) }

// shorts is cells of such keys.
func shorts(rows ...[]api.Value) []string {
	var all []string
	for _, k := range rows {
		all = append(all, short(k))
	}
	return all
}

// lengthBytes is the varint of a length below 2^14, by hand.
func lengthBytes(n int) string {
	if n < 128 {
		return string([]byte{byte(n)})
	}
	return string([]byte{0x80 | byte(n>>7), byte(n & 0x7f)})
}

// pagesFor is how many pages the chain of a payload has, chainFor that of a key.
func pagesFor(length int) int { return (max(length-40, 0) + 239) / 240 }

func chainFor(key []api.Value) int { return pagesFor(len(recordOf(key))) }

// chainOf is the pages of the chain of a payload that lies in those pages, in its order.
func chainOf(payload string, numbers ...int) []api.Page {
	var pages []api.Page
	for i := range numbers {
		link, piece := uint32(0), payload[40+240*i:]
		if i+1 < len(numbers) {
			link, piece = uint32(numbers[i+1]), piece[:240]
		}
		var cells []string
		for c := range slices.Chunk([]byte(piece), 60) {
			cells = append(cells, string(c))
		}
		pages = append(pages, raw(5, link, cells...))
	}
	return pages
}

// lay puts the chain of a payload by hand into those pages of a list of pages, and answers the stub.
func lay(pages []api.Page, payload string, numbers ...int) string {
	if len(numbers) == 0 {
		return lengthBytes(len(payload)) + payload
	}
	for i, p := range chainOf(payload, numbers...) {
		pages[numbers[i]-1] = p
	}
	return lengthBytes(len(payload)) + payload[:40] + fourBytes(uint32(numbers[0]))
}

// firstPage is a first page, byte by byte.
func firstPage(link uint32) api.Page {
	cells := []string{"bureau 1"}
	for i := range uint32(8) {
		cells = append(cells, fourBytes(i*0x01010101))
	}
	return raw(0, link, cells...)
}

// used is a page that is in use by somebody else.
func used(n int) api.Page { return raw(1, 0, "a row of "+string(rune('a'+n%26))) }

// database is the pages of a laid database, those of the list free, the others in use.
func database(count int, free ...int) []api.Page {
	pages := make([]api.Page, count)
	for n := 2; n <= count; n++ {
		pages[n-1] = used(n)
	}
	link := uint32(0)
	for _, n := range slices.Backward(free) {
		pages[n-1] = raw(0, link)
		link = uint32(n)
	}
	pages[0] = firstPage(link)
	return pages
}

// with is a list of pages with one of them another one.
func with(pages []api.Page, n int, p api.Page) []api.Page {
	changed := slices.Clone(pages)
	changed[n-1] = p
	return changed
}

// upTo is the numbers from one on up to another.
func upTo(from, to int) []int {
	var numbers []int
	for n := from; n <= to; n++ {
		numbers = append(numbers, n)
	}
	return numbers
}

func opened(t *testing.T, d *disk.Disk, log bool) *store.Store {
	t.Helper()
	s, e := store.Open(d, log)
	want(t, "Open", e, api.OK)
	return s
}

func reading(t *testing.T, s *store.Store) *store.Tx {
	t.Helper()
	tx, e := s.Begin(0)
	want(t, "Begin", e, api.OK)
	return tx
}

// writing is a transaction that writes.
func writing(t *testing.T, s *store.Store) *store.Tx {
	t.Helper()
	tx := reading(t, s)
	want(t, "Write", tx.Write(), api.OK)
	return tx
}

// having is a transaction that writes and has put those pages.
func having(t *testing.T, pages ...api.Page) *store.Tx {
	t.Helper()
	tx := writing(t, opened(t, disk.New(plenty), false))
	for i := range pages {
		if e := tx.Put(i+1, pages[i]); e != api.OK {
			t.Fatalf("Put of page %d: %v", i+1, e)
		}
	}
	return tx
}

// laid is a transaction that writes, in a database that it has laid.
func laid(t *testing.T, log bool) (*store.Store, *store.Tx) {
	t.Helper()
	s := opened(t, disk.New(plenty), log)
	tx := writing(t, s)
	want(t, "Lay", space.Lay(tx), api.OK)
	return s, tx
}

// planted is a new tree in a new database.
func planted(t *testing.T) (*store.Tx, int) {
	t.Helper()
	_, tx := laid(t, false)
	return tx, grown(t, tx)
}

// grown is a new tree.
func grown(t *testing.T, tx *store.Tx) int {
	t.Helper()
	root, e := keys.New(tx)
	want(t, "New", e, api.OK)
	return root
}

// seen is a transaction's pages.
func seen(t *testing.T, tx *store.Tx) []api.Page {
	t.Helper()
	pages := make([]api.Page, tx.Count())
	for i := range pages {
		var e api.Errno
		if pages[i], e = tx.Page(i + 1); e != api.OK {
			t.Fatalf("Page of %d: %v", i+1, e)
		}
	}
	return pages
}

// sees fails the test unless a transaction has just those pages.
func sees(t *testing.T, what string, tx *store.Tx, pages ...api.Page) {
	t.Helper()
	got := seen(t, tx)
	if len(got) != len(pages) {
		t.Fatalf("%s: %d pages, not %d", what, len(got), len(pages))
	}
	for i, p := range pages {
		if got[i] != p {
			t.Fatalf("%s: page %d is % x, not % x", what, i+1, got[i], p)
		}
	}
}

// frees fails the test unless just those pages are free, in any order.
func frees(t *testing.T, what string, tx *store.Tx, wanted ...int) {
	t.Helper()
	pages, e := space.Free(tx)
	slices.Sort(pages)
	if e != api.OK || !slices.Equal(pages, wanted) {
		t.Fatalf("%s: Free: %v %v, not %v", what, pages, e, wanted)
	}
}

func inserts(t *testing.T, tx *store.Tx, root int, order []api.Order, key []api.Value) {
	t.Helper()
	if e := keys.Insert(tx, root, order, key); e != api.OK {
		t.Fatalf("Insert of %v: %v", key, e)
	}
}

func deletes(t *testing.T, tx *store.Tx, root int, order []api.Order, key []api.Value) {
	t.Helper()
	if e := keys.Delete(tx, root, order, key); e != api.OK {
		t.Fatalf("Delete of %v: %v", key, e)
	}
}

// from is what From tells.
func from(t *testing.T, tx *store.Tx, root int, order []api.Order, key []api.Value) [][]api.Value {
	t.Helper()
	rows, e := keys.From(tx, root, order, key)
	want(t, "From", e, api.OK)
	return slices.Collect(rows)
}

// same tells whether two lists of keys are the same, byte by byte.
func same(a, b [][]api.Value) bool { return slices.EqualFunc(a, b, record.Same) }

// tells fails the test unless From and Has at and around each key tell just those keys, which rise.
func tells(t *testing.T, tx *store.Tx, root int, order []api.Order, rows ...[]api.Value) {
	t.Helper()
	if got := from(t, tx, root, order, nil); !same(got, rows) {
		t.Fatalf("From: %d keys, not the %d that there are", len(got), len(rows))
	}
	asked := [][]api.Value{key(nil), key(-1), key(0), key(1), key("a"), key("A"), key([]byte{255}), key([]byte{255}, 1)}
	for _, k := range rows {
		asked = append(asked, k)
		if len(k) < api.MaxCols && len(recordOf(k)) < api.MaxRecord-2 {
			asked = append(asked, append(slices.Clone(k), api.Value{}))
		}
		if len(k) > 0 {
			asked = append(asked, k[:len(k)-1])
		}
	}
	for _, k := range asked {
		finds(t, tx, root, order, k, rows...)
	}
}

// finds fails the test unless Has and From of a key tell what is right among those keys, which are gone through one by one.
func finds(t *testing.T, tx *store.Tx, root int, order []api.Order, k []api.Value, rows ...[]api.Value) {
	t.Helper()
	var behind [][]api.Value
	had := false
	for _, row := range rows {
		n := record.Cmp(row, k, order)
		had = had || n == 0
		if n >= 0 {
			behind = append(behind, row)
		}
	}
	if is, e := keys.Has(tx, root, order, k); is != had || e != api.OK {
		t.Fatalf("Has of %v: %v %v, not %v", k, is, e, had)
	}
	if got := from(t, tx, root, order, k); !same(got, behind) {
		t.Fatalf("From %v: %d keys, not %d", k, len(got), len(behind))
	}
}

// call is one of the functions with its arguments.
type call struct {
	name  string
	reads bool                                          // may one that only reads make it?
	asks  bool                                          // is it told orders and a key?
	does  func(tx *store.Tx) (answer bool, e api.Errno) // is there any answer beside the error?
}

func makes() call {
	return call{"New", false, false, func(tx *store.Tx) (bool, api.Errno) { n, e := keys.New(tx); return n != 0, e }}
}

func has(root int, order []api.Order, k []api.Value) call {
	return call{"Has", true, true, func(tx *store.Tx) (bool, api.Errno) { return keys.Has(tx, root, order, k) }}
}

func goesOver(root int, order []api.Order, k []api.Value) call {
	return call{"From", true, true, func(tx *store.Tx) (bool, api.Errno) {
		s, e := keys.From(tx, root, order, k)
		return s != nil, e
	}}
}

func insert(root int, order []api.Order, k []api.Value) call {
	return call{"Insert", false, true, func(tx *store.Tx) (bool, api.Errno) { return false, keys.Insert(tx, root, order, k) }}
}

func del(root int, order []api.Order, k []api.Value) call {
	return call{"Delete", false, true, func(tx *store.Tx) (bool, api.Errno) { return false, keys.Delete(tx, root, order, k) }}
}

func clears(root int) call {
	return call{"Clear", false, false, func(tx *store.Tx) (bool, api.Errno) { return false, keys.Clear(tx, root) }}
}

func drops(root int) call {
	return call{"Drop", false, false, func(tx *store.Tx) (bool, api.Errno) { return false, keys.Drop(tx, root) }}
}

func pagesOf(root int) call {
	return call{"Pages", true, false, func(tx *store.Tx) (bool, api.Errno) { l, e := keys.Pages(tx, root); return len(l) > 0, e }}
}

// walks is the calls that meet all pages and are told no orders, ofKey those that are given a key, ofRoot both.
func walks(root int) []call { return []call{pagesOf(root), clears(root), drops(root)} }

func ofKey(root int, order []api.Order, k []api.Value) []call {
	return []call{has(root, order, k), goesOver(root, order, k), insert(root, order, k), del(root, order, k)}
}

func ofRoot(root int, order []api.Order, k []api.Value) []call {
	return append(walks(root), ofKey(root, order, k)...)
}

// refuses fails the test unless a call answers that error, nothing beside it, and leaves the pages and the savepoints alone.
func refuses(t *testing.T, what string, tx *store.Tx, c call, wanted api.Errno) {
	t.Helper()
	before := seen(t, tx)
	if answer, e := c.does(tx); answer || e != wanted {
		t.Errorf("%s: %s: %v (an answer beside it: %v), not %v", what, c.name, e, answer, wanted)
	}
	if !slices.Equal(before, seen(t, tx)) {
		t.Errorf("%s: %s changed a page", what, c.name)
	}
	if tx.Release(1) == api.OK {
		t.Errorf("%s: %s left a savepoint", what, c.name)
	}
}
