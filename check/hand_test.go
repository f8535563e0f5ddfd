package check_test

import (
	"math"
	"slices"
	"strconv"
	"strings"
	"testing"

	"bureau/api"
	"bureau/check"
	"bureau/record"
)

const (
	least = math.MinInt64
	most  = math.MaxInt64
)

// key is a row of values: of an int an integer, of a string a text, of bytes a blob, of nil NULL.
func key(values ...any) []api.Value {
	row := []api.Value{}
	for _, v := range values {
		switch x := v.(type) {
		case nil:
			row = append(row, api.Value{})
		case int:
			row = append(row, api.Value{Kind: api.KindInt, Int: int64(x)})
		case string:
			row = append(row, api.Value{Kind: api.KindText, Text: x})
		case []byte:
			row = append(row, api.Value{Kind: api.KindBlob, Text: string(x)})
		}
	}
	return row
}

// ints is keys of an integer each.
func ints(numbers ...int) [][]api.Value {
	var rows [][]api.Value
	for _, n := range numbers {
		rows = append(rows, key(n))
	}
	return rows
}

// sized is a key of texts whose record has so many bytes, at least 10; those of one size rise with their seeds, by their ends.
func sized(size, seed int) []api.Value {
	row, left := key(), size-1
	for left > 402+12 {
		row, left = append(row, key(strings.Repeat("x", 400))...), left-402
	}
	if left > 402 {
		row, left = append(row, key(strings.Repeat("y", 300))...), left-302
	}
	if left == 59 { // no text has so many bytes with its type
		row, left = append(row, key(nil)...), left-1
	}
	if left > 58 { // a type of two bytes
		left--
	}
	tail := strconv.Itoa(100000 + seed)
	return append(row, key(strings.Repeat("z", left-1-len(tail))+tail)...)
}

// dataOf is data of so many bytes.
func dataOf(size, seed int) string {
	b := make([]byte, size)
	for i := range b {
		b[i] = byte(seed + i*7 + i/240)
	}
	return string(b)
}

// recordOf is a key's record.
func recordOf(key []api.Value) string {
	s, e := record.Encode(key)
	if e != api.OK {
		panic(e)
	}
	return s
}

func fourBytes(n int) string {
	return string([]byte{byte(n >> 24), byte(n >> 16), byte(n >> 8), byte(n)})
}

// number is a row's number in a cell.
func number(n int64) string {
	u := uint64(n) + 1<<63
	return fourBytes(int(u>>32)) + fourBytes(int(u))
}

// raw is a page, byte by byte.
func raw(kind byte, link int, cells ...string) api.Page {
	p := api.Page{kind, byte(len(cells)), byte(link >> 24), byte(link >> 16), byte(link >> 8), byte(link)}
	at := 6 + len(cells)
	for i, cell := range cells {
		p[6+i] = byte(len(cell))
		at += copy(p[at:], cell)
	}
	return p
}

// firstCells is the cells of a first page.
func firstCells() []string {
	cells := []string{"bureau 1"}
	for i := range 8 {
		cells = append(cells, fourBytes(i*0x01010101))
	}
	return cells
}

func firstPage(link int) api.Page { return raw(0, link, firstCells()...) }

// lengthBytes is the varint of a length below 2^14, by hand.
func lengthBytes(n int) string {
	if n < 128 {
		return string([]byte{byte(n)})
	}
	return string([]byte{0x80 | byte(n>>7), byte(n & 0x7f)})
}

// pagesFor is how many pages the chain of a payload has.
func pagesFor(length int) int { return (max(length-40, 0) + 239) / 240 }

// chainOf is the pages of the chain of a payload that lies in those pages, in its order.
func chainOf(payload string, numbers ...int) []api.Page {
	var pages []api.Page
	for i := range numbers {
		link, piece := 0, payload[40+240*i:]
		if i+1 < len(numbers) {
			link, piece = numbers[i+1], piece[:240]
		}
		var cells []string
		for c := range slices.Chunk([]byte(piece), 60) {
			cells = append(cells, string(c))
		}
		pages = append(pages, raw(5, link, cells...))
	}
	return pages
}

// stubOf is a payload's stub, whose chain begins at a page, if it has one.
func stubOf(payload string, first int) string {
	if len(payload) <= 40 {
		return lengthBytes(len(payload)) + payload
	}
	return lengthBytes(len(payload)) + payload[:40] + fourBytes(first)
}

// The cells of rows and keys whose payload has no chain, and of children with such.
func row(n int64, data string) string { return number(n) + stubOf(data, 0) }

func below(child int, n int64) string { return number(n) + fourBytes(child) }

func short(k []api.Value) string { return stubOf(recordOf(k), 0) }

func under(child int, k []api.Value) string { return fourBytes(child) + short(k) }

// rowsOf is cells of rows that have just their numbers, shorts those of keys.
func rowsOf(numbers ...int64) []string {
	var cells []string
	for _, n := range numbers {
		cells = append(cells, row(n, ""))
	}
	return cells
}

func shorts(rows ...[]api.Value) []string {
	var cells []string
	for _, k := range rows {
		cells = append(cells, short(k))
	}
	return cells
}

// with is a list of pages with one of them another one.
func with(pages []api.Page, n int, p api.Page) []api.Page {
	changed := slices.Clone(pages)
	changed[n-1] = p
	return changed
}

// upTo is the numbers from one on up to another.
func upTo(from, to int) []int {
	var numbers []int
	for n := from; n <= to; n++ {
		numbers = append(numbers, n)
	}
	return numbers
}

// same tells whether two lists of keys are the same, byte by byte.
func same(a, b [][]api.Value) bool { return slices.EqualFunc(a, b, record.Same) }

// whole fails the test unless Whole answers that error.
func whole(t *testing.T, what string, pages []api.Page, forest []api.Root, wanted api.Errno) {
	t.Helper()
	if e := check.Whole(pages, forest); e != wanted {
		t.Errorf("%s: Whole: %v, not %v", what, e, wanted)
	}
}

// frees fails the test unless Free tells those pages.
func frees(t *testing.T, what string, pages []api.Page, wanted []int) {
	t.Helper()
	if free, e := check.Free(pages); e != api.OK || !slices.Equal(free, wanted) {
		t.Errorf("%s: Free: %v %v, not %v", what, free, e, wanted)
	}
}

// hasRows fails the test unless Rows tells those.
func hasRows(t *testing.T, what string, pages []api.Page, root int, wanted []api.RowAt) {
	t.Helper()
	if rows, e := check.Rows(pages, root); e != api.OK || !slices.Equal(rows, wanted) {
		t.Errorf("%s: Rows of %d: %v, %d of them, not %d", what, root, e, len(rows), len(wanted))
	}
}

// hasKeys fails the test unless Keys tells those.
func hasKeys(t *testing.T, what string, pages []api.Page, root int, order []api.Order, wanted [][]api.Value) {
	t.Helper()
	if keys, e := check.Keys(pages, root, order); e != api.OK || !same(keys, wanted) {
		t.Errorf("%s: Keys of %d: %v, %d of them, not %d", what, root, e, len(keys), len(wanted))
	}
}

// noFree, noRows and noKeys fail the test unless the call answers that error, and nothing beside it.
func noFree(t *testing.T, what string, pages []api.Page) {
	t.Helper()
	if free, e := check.Free(pages); e != api.ErrBad || free != nil {
		t.Errorf("%s: Free: %v %v", what, free, e)
	}
}

func noRows(t *testing.T, what string, pages []api.Page, root int, wanted api.Errno) {
	t.Helper()
	if rows, e := check.Rows(pages, root); e != wanted || rows != nil {
		t.Errorf("%s: Rows of %d: %v (%d rows), not %v", what, root, e, len(rows), wanted)
	}
}

func noKeys(t *testing.T, what string, pages []api.Page, root int, order []api.Order, wanted api.Errno) {
	t.Helper()
	if keys, e := check.Keys(pages, root, order); e != wanted || keys != nil {
		t.Errorf("%s: Keys of %d: %v (%d keys), not %v", what, root, e, len(keys), wanted)
	}
}

// noTree fails the test unless Rows, or Keys, answers that error.
func noTree(t *testing.T, what string, pages []api.Page, r api.Root, wanted api.Errno) {
	t.Helper()
	if r.Keys {
		noKeys(t, what, pages, r.Page, r.Order, wanted)
	} else {
		noRows(t, what, pages, r.Page, wanted)
	}
}

// hasTree fails the test unless Rows, or Keys, tells what was laid.
func hasTree(t *testing.T, what string, pages []api.Page, r api.Root, d laid) {
	t.Helper()
	if r.Keys {
		hasKeys(t, what, pages, r.Page, r.Order, d.keys[r.Page])
	} else {
		hasRows(t, what, pages, r.Page, d.rows[r.Page])
	}
}
