package tree_test

import (
	"slices"
	"strconv"
	"testing"

	"bureau/api"
	"bureau/disk"
	"bureau/store"
	"bureau/tree"
)

func digits(key int64) string { return strconv.FormatInt(key, 10) }

// at is a row with its number's digits as data.
func at(keys ...int64) []api.RowAt {
	var rows []api.RowAt
	for _, key := range keys {
		rows = append(rows, api.RowAt{Key: key, Data: digits(key)})
	}
	return rows
}

// cells is such rows as cells.
func cells(keys ...int64) []string {
	var all []string
	for _, key := range keys {
		all = append(all, row(key, digits(key)))
	}
	return all
}

// byHand is a tree that was laid by hand.
type byHand struct {
	what  string
	pages []api.Page
	root  int
	rows  []api.RowAt
	own   []int // all its pages, with the chains
}

// threeLevels is a tree with inner pages below its root; numbers of cells are those of rows, and others.
func threeLevels() byHand {
	pages := database(12, 9, 12)
	pages[6] = inner(3, child(10, 8))
	pages[7] = inner(2, child(5, 11))
	pages[2] = inner(10, child(20, 4), child(30, 5))
	pages[10] = leaf(cells(-3, 1, 4)...)
	pages[1] = leaf(cells(6, 10)...)
	pages[3] = leaf(cells(15)...)
	pages[4] = leaf(cells(21, 30)...)
	pages[9] = leaf(cells(31, 99)...)
	return byHand{"three levels", pages, 7, at(-3, 1, 4, 6, 10, 15, 21, 30, 31, 99), []int{2, 3, 4, 5, 7, 8, 10, 11}}
}

// withChains is a tree of two leaves, whose rows have data of various lengths.
func withChains() byHand {
	pages := database(20, 18, 2)
	var rows []api.RowAt
	var stubs []string
	next := 4
	for i, length := range []int{41, 0, 700, 40, 281, 280} {
		numbers := upTo(next, next+pagesFor(length)-1)
		next += len(numbers)
		data := dataOf(length, i)
		rows = append(rows, api.RowAt{Key: int64(10 * i), Data: data})
		stubs = append(stubs, eightBytes(int64(10*i))+lay(pages, data, numbers...))
	}
	own := append([]int{3}, upTo(4, next-1)...)
	pages[16] = leaf(stubs[:3]...)
	pages[19] = leaf(stubs[3:]...)
	pages[2] = inner(20, child(25, 17))
	return byHand{"chains", pages, 3, rows, append(own, 17, 20)}
}

// farKeys is trees with the least and the greatest number.
func farKeys() []byHand {
	pages := with(database(4), 2, inner(4, child(least, 3)))
	pages[2], pages[3] = leaf(cells(least)...), leaf(cells(least+1, most)...)
	other := with(database(4), 2, inner(4, child(most-1, 3)))
	other[2], other[3] = leaf(cells(least)...), leaf(cells(most)...)
	return []byHand{
		{"the least and the greatest", with(database(2), 2, leaf(cells(least, most)...)), 2, at(least, most), []int{2}},
		{"a leaf for the least", pages, 2, at(least, least+1, most), []int{2, 3, 4}},
		{"a leaf for the greatest", other, 2, at(least, most), []int{2, 3, 4}},
	}
}

// fullPages is trees of pages that have no room left.
func fullPages() []byHand {
	var long, short []string
	var longRows, shortRows []api.RowAt
	for i := range int64(5) {
		long = append(long, row(i, dataOf(40, int(i))))
		longRows = append(longRows, api.RowAt{Key: i, Data: dataOf(40, int(i))})
	}
	for i := range int64(25) {
		short = append(short, row(i, ""))
		shortRows = append(shortRows, api.RowAt{Key: i})
	}
	pages := database(25)
	var children []string
	var rows []api.RowAt
	for i := range int64(20) {
		pages[i+4] = leaf(cells(i*2, i*2+1)...)
		rows = append(rows, at(i*2, i*2+1)...)
		children = append(children, child(i*2+1, uint32(i)+5))
	}
	pages[3] = inner(24, children[:19]...)
	return []byHand{
		{"a leaf of long rows", with(database(3), 3, leaf(long...)), 3, longRows, []int{3}},
		{"a leaf of short rows", with(database(3), 3, leaf(short...)), 3, shortRows, []int{3}},
		{"a full inner page", pages, 4, rows, upTo(4, 24)},
	}
}

// allByHand is trees of each form that the chapter has.
func allByHand() []byHand {
	two := database(4)
	two[1], two[2], two[3] = inner(4, child(0, 3)), leaf(cells(-4, 0)...), leaf(cells(1)...)
	return slices.Concat(farKeys(), fullPages(), []byHand{
		threeLevels(), withChains(),
		{"no rows", with(database(2), 2, leaf()), 2, nil, []int{2}},
		{"one row", with(database(3), 3, leaf(cells(7)...)), 3, at(7), []int{3}},
		{"two leaves", two, 2, at(-4, 0, 1), []int{2, 3, 4}},
	})
}

// TestP122ByHand: trees that were laid by hand are read as they are, by one that only reads, too.
func TestP122ByHand(t *testing.T) {
	eachWay(t, func(t *testing.T, log bool) {
		for _, h := range allByHand() {
			if f, wrong := lookThrough(h.pages, h.root); wrong != "" || !slices.Equal(f.rows, h.rows) {
				t.Fatalf("%s: the test's own tree: %s", h.what, wrong)
			}
			s := opened(t, disk.New(plenty), log)
			tx := writing(t, s)
			for i, p := range h.pages {
				want(t, "Put", tx.Put(i+1, p), api.OK)
			}
			tells(t, tx, h.root, h.rows...)
			want(t, "Commit", tx.Commit(), api.OK)
			tx = reading(t, s)
			tells(t, tx, h.root, h.rows...)
			for key := int64(-6); key < 110; key++ {
				finds(t, tx, h.root, key, h.rows...)
			}
			if l, e := tree.Pages(tx, h.root); !slices.Equal(l, h.own) || e != api.OK {
				t.Fatalf("%s: Pages: %v %v, not %v", h.what, l, e, h.own)
			}
			sees(t, h.what, tx, h.pages...)
			want(t, "Release", tx.Release(1), api.ErrNone)
		}
	})
}

// TestP122Seek: at, between and behind the rows, across leaves whose greatest row is not the number above it.
func TestP122Seek(t *testing.T) {
	h := threeLevels()
	tx := having(t, h.pages...)
	for key, wanted := range map[int64]int64{least: -3, -3: -3, -2: 1, 4: 4, 5: 6, 6: 6, 7: 10, 10: 10, 11: 15, 15: 15, 16: 21, 20: 21, 22: 30, 31: 31, 32: 99, 99: 99} {
		if r, e := tree.Seek(tx, h.root, key); r != at(wanted)[0] || e != api.OK {
			t.Errorf("Seek of %d: %v %v, not %d", key, r, e, wanted)
		}
	}
	for _, key := range []int64{100, most} {
		refuses(t, "behind all rows", tx, seek(h.root, key), api.ErrNone)
	}
}

// TestP122OnlyPagesMet: what is wrong with pages that a call does not meet is not its error.
func TestP122OnlyPagesMet(t *testing.T) {
	h := threeLevels()
	for _, n := range []int{2, 4, 5, 10, 3} {
		tx := having(t, with(h.pages, n, used(0))...)
		if d, e := tree.Get(tx, h.root, 1); d != "1" || e != api.OK {
			t.Errorf("Get beside a wrong page %d: %q %v", n, d, e)
		}
		puts(t, tx, h.root, 1, "one", false)
		puts(t, tx, h.root, 2, "two", true)
	}
	c := withChains()
	tx := having(t, with(c.pages, 4, used(0))...)
	for _, r := range c.rows[1:] {
		if d, e := tree.Get(tx, c.root, r.Key); d != r.Data || e != api.OK {
			t.Errorf("Get beside a wrong chain: %v", e)
		}
	}
	refuses(t, "the row with the wrong chain", tx, get(c.root, 0), api.ErrBad)
}

// TestP122AllBrokenOff: a walk may be left early at each row, and gone over again; two of them go side by side.
func TestP122AllBrokenOff(t *testing.T) {
	for _, h := range allByHand() {
		tx := having(t, h.pages...)
		rows, e := tree.All(tx, h.root)
		want(t, "All", e, api.OK)
		for left := range len(h.rows) + 1 {
			var got []api.RowAt
			for r := range rows {
				if len(got) == left {
					break
				}
				got = append(got, r)
			}
			if !slices.Equal(got, h.rows[:left]) {
				t.Fatalf("%s: %d rows ahead of a break at %d", h.what, len(got), left)
			}
		}
		var pairs int
		for a := range rows {
			for b := range rows {
				if a == b {
					pairs++
				}
			}
		}
		if pairs != len(h.rows) || !slices.Equal(slices.Collect(rows), h.rows) {
			t.Fatalf("%s: %d pairs of %d rows", h.what, pairs, len(h.rows))
		}
	}
}

// TestP122AllStays: All tells what there was when it was called, whatever is done with the tree during the walk, or ahead of it.
func TestP122AllStays(t *testing.T) {
	changes := map[string]func(tx *store.Tx, root int, key int64){
		"Delete":   func(tx *store.Tx, root int, key int64) { tree.Delete(tx, root, key) },
		"Put":      func(tx *store.Tx, root int, key int64) { tree.Put(tx, root, key, dataOf(900, 9)) },
		"Put more": func(tx *store.Tx, root int, key int64) { tree.Put(tx, root, key+1, dataOf(300, 9)) },
		"Clear":    func(tx *store.Tx, root int, key int64) { tree.Clear(tx, root) },
		"Drop":     func(tx *store.Tx, root int, key int64) { tree.Drop(tx, root) },
		"Rollback": func(tx *store.Tx, root int, key int64) { tx.Rollback() },
		"Shrink":   func(tx *store.Tx, root int, key int64) { tx.Shrink(0) },
	}
	for what, change := range changes {
		for _, h := range allByHand() {
			tx := having(t, h.pages...)
			rows, e := tree.All(tx, h.root)
			want(t, "All", e, api.OK)
			var got []api.RowAt
			for r := range rows {
				change(tx, h.root, r.Key)
				got = append(got, r)
			}
			if !slices.Equal(got, h.rows) || !slices.Equal(slices.Collect(rows), h.rows) {
				t.Fatalf("%s during a walk over %s: %d rows, not %d", what, h.what, len(got), len(h.rows))
			}
		}
	}
}

// TestP122Missing: no such row.
func TestP122Missing(t *testing.T) {
	for _, h := range allByHand() {
		tx := having(t, h.pages...)
		for _, key := range []int64{least, -77, 2, 3, 26, 27, 28, 29, 100, most} {
			if !slices.ContainsFunc(h.rows, func(r api.RowAt) bool { return r.Key == key }) {
				refuses(t, h.what, tx, get(h.root, key), api.ErrNone)
				refuses(t, h.what, tx, del(h.root, key), api.ErrNone)
			}
		}
		if len(h.rows) == 0 {
			refuses(t, h.what, tx, last(h.root), api.ErrNone)
			refuses(t, h.what, tx, seek(h.root, least), api.ErrNone)
		}
	}
}
