package tree_test

import (
	"math/rand"
	"slices"
	"strings"
	"testing"

	"bureau/api"
	"bureau/disk"
	"bureau/tree"
)

// wrong is a tree that is none, as one of its pages is not as the chapter has it; keys lead to that page.
type wrong struct {
	what  string
	pages []api.Page
	root  int
	keys  []int64
}

// wrongLeaves is pages that are none of a tree's in the place of the leaf 4 of threeLevels, in which just the rows 11 to 20 can be.
func wrongLeaves() []wrong {
	h := threeLevels()
	var all []wrong
	add := func(what string, p api.Page) {
		all = append(all, wrong{what, with(h.pages, 4, p), h.root, []int64{11, 15, 16, 20}})
	}
	for _, kind := range []byte{0, 3, 4, 5, 6, 255} {
		add("another kind", raw(kind, 0, cells(15)...))
	}
	add("no page", api.Page{0: 1, 200: 7})
	add("an empty leaf", leaf())
	add("a leaf with a link", raw(1, 10, cells(15)...))
	add("a leaf with a link", raw(1, 1<<31, cells(15)...))
	for _, n := range []int{1, 4, 7, 8} {
		add("a cell that is too short", leaf(row(15, "15")[:n]))
		add("a cell that is too short", leaf(row(12, "12"), row(15, "15")[:n]))
		add("a cell that is too short", leaf(row(15, "15")[:n], row(16, "16")))
	}
	for _, key := range []int64{least, 0, 9, 10, 21, 30, most} {
		add("a number outside", leaf(row(key, "")))
		if key < 15 {
			add("a number outside", leaf(row(key, ""), row(15, "")))
		} else {
			add("a number outside", leaf(row(15, ""), row(key, "")))
		}
	}
	for _, keys := range [][]int64{{15, 15}, {15, 14}, {11, 13, 12}, {12, 11, 20}, {11, 20, 20}, {20, 11}, {11, 12, 12, 13}} {
		add("numbers that do not rise", leaf(cells(keys...)...))
	}
	return all
}

// wrongStubs is leaves with a cell whose stub is none.
func wrongStubs() []wrong {
	h := threeLevels()
	var all []wrong
	long := dataOf(40, 1)
	for _, stub := range []string{
		"\x01", "\x02a", "\x03ab", "\x00a", "\x01ab", "\x03abcd", // too few bytes, too many
		"\x28" + long[:39], "\x28" + long + "x", "\x29" + long, "\x29" + long + "\x00\x00\x00", "\x29" + long + "\x00\x00\x00\x02x",
		"\x7f" + long, "\x81\x00" + long, "\x81\x00" + long + "\x00\x00\x00", "\x81\x00" + long + "\x00\x00\x00\x02x",
		"\x80", "\x81", "\x9f", "\xff", "\x80\x00", "\x80\x01a", "\x80\x29" + long + "\x00\x00\x00\x02", // a length that is cut short, or longer than it needs
		"\x9f\x21" + long + "\x00\x00\x00\x02", "\xa0\x00" + long + "\x00\x00\x00\x02", "\xff\x7f" + long + "\x00\x00\x00\x02", // above 4000
		"\x81\x80\x00" + long + "\x00\x00\x00\x02", "\x80\x80\x29", "\x81\x80",
		"\x81\x80" + long + "\x00\x00\x00\x02", "\x81\xff" + long + "\x00\x00\x00\x02", "\x80\xa9" + long + "\x00\x00\x00\x02", // another byte of the length should come
	} {
		for _, p := range []api.Page{leaf(eightBytes(15) + stub), leaf(row(12, "twelve"), eightBytes(15)+stub), leaf(eightBytes(15)+stub, row(18, "18"))} {
			all = append(all, wrong{"a stub that is none", with(h.pages, 4, p), h.root, []int64{11, 12, 15, 18, 20}})
		}
	}
	return all
}

// wrongInner is pages that are none of a tree's in the place of the inner page 3 of threeLevels, below which just the rows from 11 on can be.
func wrongInner() []wrong {
	h := threeLevels()
	var all []wrong
	add := func(what string, p api.Page, keys ...int64) {
		all = append(all, wrong{what, with(h.pages, 3, p), h.root, keys})
	}
	every := []int64{11, 15, 20, 21, 30, 31, 99, most}
	for _, kind := range []byte{0, 1, 3, 4, 5, 6, 255} {
		add("another kind", raw(kind, 10, child(20, 4), child(30, 5)), every...)
	}
	add("no page", api.Page{0: 2, 200: 7}, every...)
	add("no cells", inner(10), every...)
	add("no cells", inner(4), every...)
	for _, c := range []string{"x", child(20, 4)[:8], child(20, 4)[:9], child(20, 4)[:11], child(20, 4) + "x", child(20, 4) + strings.Repeat("x", 40)} {
		add("a cell that is too short or too long", inner(10, c), every...)
		add("a cell that is too short or too long", inner(10, c, child(30, 5)), every...)
	}
	for _, keys := range [][2]int64{{20, 20}, {30, 20}, {10, 30}, {9, 30}, {least, 30}, {20, most}} {
		add("numbers that do not rise, or stand outside", inner(10, child(keys[0], 4), child(keys[1], 5)), every...)
	}
	for _, n := range []uint32{0, 1, 13, 4096, 4097, 1 << 16, 1<<24 + 4, 1<<32 - 1} {
		add("a child that is none", inner(10, child(20, n), child(30, 5)), 11, 15, 20)
		add("a child that is none", inner(10, child(20, 4), child(30, n)), 21, 30)
		add("a child that is none", inner(n, child(20, 4), child(30, 5)), 31, 99, most)
	}
	for _, n := range []uint32{2, 3, 5, 6, 7, 8, 9, 10, 11} {
		add("a page that is met twice, or is another's", inner(10, child(20, n), child(30, 5)), 11, 15, 20)
	}
	for _, n := range []uint32{2, 3, 4, 6, 7, 8, 9, 10, 11} {
		add("a page that is met twice, or is another's", inner(10, child(20, 4), child(30, n)), 21, 30)
	}
	for _, n := range []uint32{2, 3, 4, 5, 6, 7, 8, 9, 11} {
		add("a page that is met twice, or is another's", inner(n, child(20, 4), child(30, 5)), 31, 99, most)
	}
	return all
}

// wrongFar is trees whose leaves are not as far from the root; the keys lead by the second of two leaves.
func wrongFar() []wrong {
	h := threeLevels()
	deep := with(with(h.pages, 6, inner(9, child(23, 5))), 9, leaf(cells(25)...))
	deep[2], deep[4] = inner(10, child(20, 4), child(30, 6)), leaf(cells(21)...)
	return []wrong{
		{"the first leaf is nearer", with(h.pages, 7, inner(3, child(10, 11))), h.root, nil},
		{"the last leaf is nearer", with(h.pages, 7, inner(10, child(30, 8))), h.root, nil},
		{"two leaves are farther", deep, h.root, nil},
	}
}

// wrongRoots is pages that are no roots, though they may be pages of a tree.
func wrongRoots() []wrong {
	h := threeLevels()
	every := []int64{least, 0, 10, 11, 99, most}
	return []wrong{
		{"an inner page without cells", with(h.pages, 7, inner(3)), h.root, every},
		{"a root with a link", with(h.pages, 7, raw(1, 3, cells(1, 2)...)), h.root, every},
		{"a root with a link", with(h.pages, 7, raw(1, 3)), h.root, every},
		{"numbers that do not rise", with(h.pages, 7, leaf(cells(2, 1)...)), h.root, every},
		{"no number is above the last one", with(h.pages, 7, inner(3, child(most, 8))), h.root, every},
		{"the number of the cell above", with(h.pages, 8, inner(2, child(10, 11))), h.root, []int64{least, -3, 5, 6, 10}},
		{"a root that leads to itself", with(h.pages, 7, inner(3, child(10, 7))), h.root, []int64{least, 0, 10}},
		{"a root that leads to itself", with(h.pages, 7, inner(7, child(10, 8))), h.root, []int64{11, most}},
		{"a circle by an inner page", with(h.pages, 8, inner(2, child(5, 7))), h.root, []int64{least, 0, 5}},
		{"a circle by an inner page", with(h.pages, 3, inner(7, child(20, 4), child(30, 5))), h.root, []int64{31, most}},
	}
}

// TestP12WrongPages: whatever call meets them answers ErrBad, and changes nothing.
func TestP12WrongPages(t *testing.T) {
	for _, w := range slices.Concat(wrongLeaves(), wrongStubs(), wrongInner(), wrongFar(), wrongRoots()) {
		if _, is := lookThrough(w.pages, w.root); is == "" {
			t.Fatalf("%s: the test's own tree is none that is wrong", w.what)
		}
		tx := having(t, w.pages...)
		for _, c := range walks(w.root) {
			refuses(t, w.what, tx, c, api.ErrBad)
		}
		for _, key := range w.keys {
			for _, c := range ofKey(w.root, key) {
				refuses(t, w.what, tx, c, api.ErrBad)
			}
		}
		if slices.Contains(w.keys, most) {
			refuses(t, w.what, tx, last(w.root), api.ErrBad)
		}
		if t.Failed() {
			t.Fatalf("%s: pages % x", w.what, w.pages[2:4])
		}
	}
}

// TestP12SeekMeets: a number behind the rows of a leaf leads on to the next one, which must be as far, and a leaf of a tree.
func TestP12SeekMeets(t *testing.T) {
	h := threeLevels()
	for _, n := range []int{4, 3} {
		tx := having(t, with(h.pages, n, used(0))...)
		refuses(t, "the next leaf", tx, seek(h.root, 11), api.ErrBad)
	}
	tx := having(t, with(h.pages, 2, used(0))...)
	refuses(t, "the next leaf", tx, seek(h.root, 5), api.ErrBad)
	far := wrongFar()
	refuses(t, far[0].what, having(t, far[0].pages...), seek(h.root, 5), api.ErrBad)
	refuses(t, far[1].what, having(t, far[1].pages...), seek(h.root, 11), api.ErrBad)
}

// wrongChains is trees with a chain that is not as layer 11 has it, by the key of its row.
func wrongChains() []wrong {
	h := withChains() // the chains of the rows: 0: 4; 20: 5, 6, 7; 40: 8, 9; 50: 10
	var all []wrong
	for n, key := range map[int]int64{4: 0, 5: 20, 6: 20, 7: 20, 8: 40, 9: 40, 10: 50} {
		for _, p := range []api.Page{{}, used(0), raw(0, 0), raw(5, 0), raw(5, 0, "x", "y"), raw(5, uint32(n), "x"), leaf(cells(5)...), {0: 5, 99: 9}} {
			all = append(all, wrong{"a chain that is none", with(h.pages, n, p), h.root, []int64{key}})
		}
	}
	return all
}

// TestP12WrongChains: they are ErrBad where a row's data are read, put in another's place or taken out, and nothing has changed.
func TestP12WrongChains(t *testing.T) {
	for _, w := range wrongChains() {
		tx := having(t, w.pages...)
		for _, c := range append(walks(w.root), ofKey(w.root, w.keys[0])...) {
			refuses(t, w.what, tx, c, api.ErrBad)
		}
		if w.keys[0] == 50 {
			refuses(t, w.what, tx, last(w.root), api.ErrBad)
		}
	}
}

// TestP12SharedChains: two rows that lead to one chain, or into it, are met by the calls that go over all pages.
func TestP12SharedChains(t *testing.T) {
	pages := database(9)
	stub := lay(pages, dataOf(600, 1), 5, 6, 7)
	tail := lengthBytes(600-240) + dataOf(40, 0) + fourBytes(6)
	for _, other := range []string{stub, tail} {
		one := with(pages, 3, leaf(eightBytes(1)+stub, eightBytes(2)+other))
		two := with(with(with(pages, 2, leaf(eightBytes(1)+stub)), 4, leaf(eightBytes(2)+other)), 3, inner(4, child(1, 2)))
		for _, p := range [][]api.Page{one, two} {
			if _, is := lookThrough(p, 3); is == "" {
				t.Fatal("the test's own tree is none that is wrong")
			}
			tx := having(t, p...)
			for _, c := range walks(3) {
				refuses(t, "a chain of two rows", tx, c, api.ErrBad)
			}
			if d, e := tree.Get(tx, 3, 1); d != dataOf(600, 1) || e != api.OK {
				t.Errorf("Get: %d bytes %v", len(d), e)
			}
		}
	}
}

// TestP12FreePages: free pages that are not in order are ErrBad where so many are taken, also in the midst of a change, and nothing has changed.
func TestP12FreePages(t *testing.T) {
	full := fullPages()[0] // the tree 3, whose leaf has no room
	for _, free := range []map[int]api.Page{
		{4: used(4)}, {4: raw(0, 5), 5: used(5)}, {4: raw(0, 5), 5: raw(0, 6), 6: leaf()}, // a page that is none, at the first, second, third place
		{4: raw(0, 4)}, {4: raw(0, 5), 5: raw(0, 4)}, // a circle
		{4: raw(0, 1)}, {4: raw(0, 99)}, {4: raw(0, 3)},
	} {
		pages := append(slices.Clone(full.pages), used(4), used(5), used(6))
		pages[0] = firstPage(4)
		for n, p := range free {
			pages[n-1] = p
		}
		tx := having(t, pages...)
		refuses(t, "a chain and two halves", tx, put(3, 9, dataOf(41, 1)), api.ErrBad)
		refuses(t, "a long chain", tx, put(3, 9, dataOf(4000, 1)), api.ErrBad)
		refuses(t, "a long chain in a row's place", tx, put(3, 2, dataOf(4000, 1)), api.ErrBad)
		tells(t, tx, 3, full.rows...)
	}
	for _, free := range []map[int]api.Page{{4: used(4)}, {4: raw(0, 5), 5: used(5)}, {4: raw(0, 4)}, {4: raw(0, 1)}} {
		pages := append(slices.Clone(full.pages), used(4), used(5))
		pages[0] = firstPage(4)
		for n, p := range free {
			pages[n-1] = p
		}
		tx := having(t, pages...)
		refuses(t, "two halves", tx, put(3, 9, ""), api.ErrBad)
		puts(t, tx, 3, 2, "", false) // no page is taken
	}
}

// TestP12WrongBeside: where the page beside is met in the midst of Delete, and is none of a tree's, the row and its chain are as they were.
func TestP12WrongBeside(t *testing.T) {
	for _, beside := range []api.Page{used(0), {}, leaf(), leaf(cells(1)...), leaf(cells(50, 49)...), inner(4, child(50, 2)), raw(1, 3, cells(50)...), {0: 9}} {
		pages := database(8)
		stub := lay(pages, dataOf(500, 1), 6, 5)
		pages[1] = inner(4, child(20, 3))
		pages[2] = leaf(eightBytes(7) + stub)
		pages[3] = beside
		refuses(t, "behind", having(t, pages...), del(2, 7), api.ErrBad)
		pages[1] = inner(3, child(5, 4))
		if beside == leaf(cells(1)...) {
			continue // it may stand ahead
		}
		refuses(t, "ahead", having(t, pages...), del(2, 7), api.ErrBad)
	}
}

// ends makes a call on a tree that may be wrong: where it answers an error nothing has changed.
func ends(t *testing.T, what string, pages []api.Page, c call) api.Errno {
	t.Helper()
	tx := having(t, pages...)
	answer, e := c.does(tx)
	if e == api.OK {
		return e
	}
	if answer || !slices.Contains([]api.Errno{api.ErrBad, api.ErrNone, api.ErrFull}, e) {
		t.Fatalf("%s: %s: %v (an answer beside it: %v)", what, c.name, e, answer)
	}
	if !slices.Equal(seen(t, tx), pages) || tx.Release(1) == api.OK {
		t.Fatalf("%s: %s: %v, and something changed", what, c.name, e)
	}
	return e
}

// judged holds All and Pages against what the chapter's words say of a tree; all other calls end.
func judged(t *testing.T, what string, pages []api.Page, root int, keys ...int64) {
	t.Helper()
	tx := having(t, pages...)
	f, is := lookThrough(pages, root)
	rows, e := tree.All(tx, root)
	numbers, p := tree.Pages(tx, root)
	if is != "" {
		if e != api.ErrBad || rows != nil || p != api.ErrBad || numbers != nil {
			t.Fatalf("%s (%s): All %v, Pages %v %v", what, is, e, p, numbers)
		}
		for _, c := range walks(root) {
			want(t, what+": "+c.name, ends(t, what, pages, c), api.ErrBad)
		}
	} else if e != api.OK || p != api.OK || !slices.Equal(slices.Collect(rows), f.rows) || !slices.Equal(numbers, slices.Sorted(slices.Values(slices.Concat(f.pages, f.chains)))) {
		t.Fatalf("%s: All %v, Pages %v %v", what, e, p, numbers)
	}
	for _, key := range keys {
		for _, c := range ofKey(root, key) {
			ends(t, what, pages, c)
		}
	}
	ends(t, what, pages, last(root))
}

// TestP12BytesChanged: each byte of a tree's pages is changed.
func TestP12BytesChanged(t *testing.T) {
	for _, h := range []byHand{threeLevels(), withChains()} {
		tx := having(t, h.pages...)
		for _, n := range h.own {
			for place := range api.PageSize {
				p := h.pages[n-1]
				for _, b := range []byte{p[place] + 1, p[place] - 1, p[place] ^ 0x80, 0, 1, 2, 5, 8, 9, 60} {
					if place > 120 && b > 0 && h.what != "chains" {
						continue
					}
					q := p
					q[place] = b
					want(t, "Put", tx.Put(n, q), api.OK)
					f, is := lookThrough(with(h.pages, n, q), h.root)
					rows, e := tree.All(tx, h.root)
					if is == "" && (e != api.OK || !slices.Equal(slices.Collect(rows), f.rows)) || is != "" && (e != api.ErrBad || rows != nil) {
						t.Fatalf("byte %d of page %d is %d (%s): All: %v", place, n, b, is, e)
					}
				}
				want(t, "Put", tx.Put(n, p), api.OK)
			}
		}
	}
}

// TestP12AnyBytes: some bytes of any pages, or links between them, are changed at random.
func TestP12AnyBytes(t *testing.T) {
	r := rand.New(rand.NewSource(12))
	for _, h := range []byHand{threeLevels(), withChains(), farKeys()[1], fullPages()[2]} {
		for range 400 {
			pages := slices.Clone(h.pages)
			for range 1 + r.Intn(3) {
				n := h.own[r.Intn(len(h.own))]
				switch r.Intn(4) {
				case 0:
					pages[n-1][r.Intn(api.PageSize)] = byte(r.Intn(256))
				case 1:
					pages[n-1][r.Intn(40)] = byte(r.Intn(30))
				case 2:
					pages[n-1] = pages[h.own[r.Intn(len(h.own))]-1]
				case 3:
					link, cells, _ := partsOf(pages[n-1])
					if len(cells) > 0 {
						i := r.Intn(len(cells))
						cells[i] = cells[i][:len(cells[i])-1] + string([]byte{byte(h.own[r.Intn(len(h.own))])})
						pages[n-1] = raw(pages[n-1][0], link, cells...)
					}
				}
			}
			judged(t, h.what, pages, h.root, h.rows[r.Intn(len(h.rows))].Key, int64(r.Intn(60)))
		}
	}
}

// twisted is pages that all look like pages of a tree and lead to any of them.
func twisted(r *rand.Rand, count int) []api.Page {
	pages := database(count)
	for n := 2; n <= count; n++ {
		var texts []string
		key := int64(r.Intn(8))
		isLeaf := r.Intn(3) == 0
		for range 1 + r.Intn(3) {
			if isLeaf {
				texts = append(texts, row(key, ""))
			} else {
				texts = append(texts, child(key, uint32(2+r.Intn(count-1))))
			}
			key += int64(1 + r.Intn(4))
		}
		if isLeaf {
			pages[n-1] = leaf(texts...)
		} else {
			pages[n-1] = inner(uint32(2+r.Intn(count-1)), texts...)
		}
	}
	return pages
}

// TestP12Twisted: pages that lead to each other anyhow, in circles, too.
func TestP12Twisted(t *testing.T) {
	r := rand.New(rand.NewSource(13))
	for range 3000 {
		pages := twisted(r, 4+r.Intn(4))
		judged(t, "twisted", pages, 2, int64(r.Intn(12)))
	}
}

// TestP12Deep: a way down through thousands of inner pages, and one in which each page leads to the next one twice, end soon.
func TestP12Deep(t *testing.T) {
	const count = 4000
	ladder, double := database(count), database(count)
	for n := 2; n < count; n++ {
		ladder[n-1] = inner(uint32(n+1), child(int64(n), 2))
		double[n-1] = inner(uint32(n+1), child(int64(-n), uint32(n+1)))
	}
	ladder[count-1], double[count-1] = leaf(cells(count)...), leaf(cells(0)...)
	for _, pages := range [][]api.Page{ladder, double} {
		tx := having(t, pages...)
		for _, c := range walks(2) {
			refuses(t, "deep", tx, c, api.ErrBad)
		}
		for _, key := range []int64{least, 0, 5, count, most} {
			for _, c := range []call{get(2, key), seek(2, key), last(2), put(2, key, "x"), del(2, key)} {
				c.does(tx)
			}
		}
	}
}

// TestP12CutFile: pages that went away behind the transaction's back are none of a tree.
func TestP12CutFile(t *testing.T) {
	h := threeLevels()
	d := disk.New(plenty)
	s := opened(t, d, false)
	tx := writing(t, s)
	for i, p := range h.pages {
		want(t, "Put", tx.Put(i+1, p), api.OK)
	}
	want(t, "Commit", tx.Commit(), api.OK)
	tx = writing(t, s)
	want(t, "Truncate", d.Truncate("db", 3*api.PageSize), api.OK)
	for _, c := range ofRoot(h.root, 5) {
		if answer, e := c.does(tx); answer || e != api.ErrBad {
			t.Errorf("%s of pages that went away: %v", c.name, e)
		}
	}
}
