package keys_test

import (
	"slices"
	"strings"
	"testing"

	"bureau/api"
	"bureau/disk"
)

// wrong is a tree that is none, as one of its pages is not as the chapter has it; keys lead to that page.
type wrong struct {
	what   string
	pages  []api.Page
	root   int
	keys   [][]api.Value
	byKeys bool // it is so by how its keys stand: calls that are told no orders cannot know it
}

// wrongLeaves is pages that are none of a tree's in the place of the leaf 4 of threeLevels, in which just the keys 11 to 20 can be.
func wrongLeaves() []wrong {
	h := threeLevels()
	var all []wrong
	add := func(what string, byKeys bool, p api.Page) {
		all = append(all, wrong{what, with(h.pages, 4, p), h.root, append(ints(11, 15, 16, 20), key(10, nil), key(15, "x")), byKeys})
	}
	for _, kind := range []byte{0, 1, 2, 4, 5, 6, 255} {
		add("another kind", false, raw(kind, 0, short(key(15))))
	}
	add("no page", false, api.Page{0: 3, 200: 7})
	add("an empty leaf", false, leaf())
	add("a leaf with a link", false, raw(3, 10, short(key(15))))
	add("a leaf with a link", false, raw(3, 1<<31, short(key(15))))
	for _, n := range []int{1, 2, 3} {
		add("a cell that is too short", false, leaf(short(key(15))[:n]))
		add("a cell that is too short", false, leaf(short(key(12)), short(key(15))[:n]))
		add("a cell that is too short", false, leaf(short(key(15))[:n], short(key(16))))
	}
	for _, k := range [][]api.Value{key(), key(nil), key(0), key(9), key(10), key(20, nil), key(21), key(30), key("a")} {
		add("a key outside", true, leaf(short(k)))
		add("a key outside", true, leaf(short(k), short(key(15))))
		add("a key outside", true, leaf(short(key(15)), short(k)))
	}
	for _, numbers := range [][]int{{15, 15}, {15, 14}, {11, 13, 12}, {12, 11, 20}, {11, 20, 20}, {20, 11}, {11, 12, 12, 13}} {
		add("keys that do not rise", true, leaf(shorts(ints(numbers...)...)...))
	}
	add("keys that do not rise", true, leaf(short(key(15, 1)), short(key(15))))
	return all
}

// noStubs is texts that are no stubs, or stubs and more, and stubs whose payload is no record.
func noStubs() []string {
	long := strings.Repeat("y", 40)
	return []string{
		"\x01", "\x02\x00", "\x03\x01\x01", "\x00a", "\x01\x00b", "\x03\x01\x01\x0fx", // too few bytes, too many
		"\x28" + long[:39], "\x28" + long + "x", "\x29" + long, "\x29" + long + "\x00\x00\x00", "\x29" + long + "\x00\x00\x00\x02x",
		"\x80", "\x81", "\x9f", "\xff", "\x80\x00", "\x80\x01\x00", "\x81\x80\x00", // a length that is cut short, or longer than it needs
		"\x9f\x21" + long + "\x00\x00\x00\x02", "\xa0\x00" + long + "\x00\x00\x00\x02", // above 4000
		"\x00", "\x01\x01", "\x02\x01\x01", "\x02\x00\x00", "\x03\x01\x01\x00", "\x03\x01\x01\x01", "\x04\x01\x02\x00\x0f", "\x02\x01\x0b", "\x03\x01\x80\x00", // no records
		"\x02\x11\x00", "\x12\x11" + strings.Repeat("\x00", 17), "\x28" + long,
	}
}

// wrongStubs is leaves and inner pages with a cell whose stub is none, or is that of no record.
func wrongStubs() []wrong {
	h := threeLevels()
	var all []wrong
	for _, stub := range noStubs() {
		for _, p := range []api.Page{leaf(stub), leaf(short(key(12)), stub), leaf(stub, short(key(18)))} {
			all = append(all, wrong{"a stub that is none", with(h.pages, 4, p), h.root, ints(11, 12, 15, 18, 20), false})
		}
		for _, p := range []api.Page{inner(10, fourBytes(4)+stub), inner(10, child(4, key(20)), fourBytes(5)+stub), inner(10, fourBytes(4)+stub, child(5, key(30)))} {
			all = append(all, wrong{"a stub above that is none", with(h.pages, 3, p), h.root, ints(11, 15, 20, 21, 30, 31, 99), false})
		}
	}
	return all
}

// noRecords is trees in which the payload of a chain, that is as it should be, is no record.
func noRecords() []wrong {
	var all []wrong
	for _, payload := range []string{strings.Repeat("\x00", 41), strings.Repeat("q", 300), recordOf(sized(200, 1)) + "x", recordOf(sized(200, 1))[:199], "\x11" + strings.Repeat("\x00", 17) + strings.Repeat("x", 40)} {
		pages := database(10)
		stub := lay(pages, payload, upTo(5, 4+pagesFor(len(payload)))...)
		pages[1], pages[2], pages[3] = inner(4, child(3, key(9))), leaf(short(key(5))), leaf(short(key(11)))
		all = append(all,
			wrong{"no record in a root", with(pages, 2, leaf(stub)), 2, ints(1, 5, 11), false},
			wrong{"no record in a leaf", with(pages, 4, leaf(short(key(10)), stub)), 2, ints(10, 11), false},
			wrong{"no record above", with(pages, 2, inner(4, fourBytes(3)+stub)), 2, ints(1, 5, 11), false})
	}
	return all
}

// wrongInner is pages that are none of a tree's in the place of the inner page 3 of threeLevels, below which just the keys from 11 on can be.
func wrongInner() []wrong {
	h := threeLevels()
	var all []wrong
	add := func(what string, byKeys bool, p api.Page, numbers ...int) {
		all = append(all, wrong{what, with(h.pages, 3, p), h.root, ints(numbers...), byKeys})
	}
	every := []int{11, 15, 20, 21, 30, 31, 99}
	for _, kind := range []byte{0, 1, 2, 3, 5, 6, 255} {
		add("another kind", false, raw(kind, 10, child(4, key(20)), child(5, key(30))), every...)
	}
	add("no page", false, api.Page{0: 4, 200: 7}, every...)
	add("no cells", false, inner(10), every...)
	add("no cells", false, inner(4), every...)
	for _, c := range []string{"x", "\x00\x00\x00", "\x00\x00\x00\x04", child(4, key(20))[:5], child(4, key(20))[:7]} {
		add("a cell that is too short", false, inner(10, c), every...)
		add("a cell that is too short", false, inner(10, c, child(5, key(30))), every...)
		add("a cell that is too short", false, inner(10, child(4, key(20)), c), every...)
	}
	for _, k := range [][2][]api.Value{{key(20), key(20)}, {key(30), key(20)}, {key(10), key(30)}, {key(9), key(30)}, {key(), key(30)}, {key(20, 1), key(20)}} {
		add("keys that do not rise, or stand outside", true, inner(10, child(4, k[0]), child(5, k[1])), every...)
	}
	for _, n := range []uint32{0, 1, 13, 4096, 4097, 1 << 16, 1<<24 + 4, 1<<32 - 1} {
		add("a child that is none", false, inner(10, child(n, key(20)), child(5, key(30))), 11, 15, 20)
		add("a child that is none", false, inner(10, child(4, key(20)), child(n, key(30))), 21, 30)
		add("a child that is none", false, inner(n, child(4, key(20)), child(5, key(30))), 31, 99)
	}
	for n := uint32(2); n <= 12; n++ {
		if n != 4 {
			add("a page that is met twice, or is another's", false, inner(10, child(n, key(20)), child(5, key(30))), 11, 15, 20)
		}
		if n != 5 {
			add("a page that is met twice, or is another's", false, inner(10, child(4, key(20)), child(n, key(30))), 21, 30)
		}
		if n != 10 {
			add("a page that is met twice, or is another's", false, inner(n, child(4, key(20)), child(5, key(30))), 31, 99)
		}
	}
	return all
}

// wrongFar is trees whose leaves are not as far from the root.
func wrongFar() []wrong {
	h := threeLevels()
	deep := with(with(h.pages, 6, inner(9, child(5, key(23)))), 9, leaf(short(key(25))))
	deep[2], deep[4] = inner(10, child(4, key(20)), child(6, key(30))), leaf(short(key(21)))
	return []wrong{
		{"the first leaf is nearer", with(h.pages, 7, inner(3, child(11, key(10)))), h.root, nil, false},
		{"the last leaf is nearer", with(h.pages, 7, inner(10, child(8, key(30)))), h.root, nil, false},
		{"two leaves are farther", deep, h.root, nil, false},
	}
}

// wrongRoots is pages that are no roots, though they may be pages of a tree.
func wrongRoots() []wrong {
	h := threeLevels()
	every := ints(-100, 0, 10, 11, 99)
	return []wrong{
		{"an inner page without cells", with(h.pages, 7, inner(3)), h.root, every, false},
		{"a root with a link", with(h.pages, 7, raw(3, 3, shorts(ints(1, 2)...)...)), h.root, every, false},
		{"a root with a link", with(h.pages, 7, raw(3, 3)), h.root, every, false},
		{"keys that do not rise", with(h.pages, 7, leaf(shorts(ints(2, 1)...)...)), h.root, every, true},
		{"the key of the cell above", with(h.pages, 8, inner(2, child(11, key(10)))), h.root, ints(-100, -3, 5, 6, 10), true},
		{"a root that leads to itself", with(h.pages, 7, inner(3, child(7, key(10)))), h.root, ints(-100, 0, 10), false},
		{"a root that leads to itself", with(h.pages, 7, inner(7, child(8, key(10)))), h.root, ints(11, 99), false},
		{"a circle by an inner page", with(h.pages, 8, inner(2, child(7, key(5)))), h.root, ints(-100, 0, 5), false},
		{"a circle by an inner page", with(h.pages, 3, inner(7, child(4, key(20)), child(5, key(30)))), h.root, ints(31, 99), false},
	}
}

// TestP13WrongPages: whatever call meets them answers ErrBad, and changes nothing.
func TestP13WrongPages(t *testing.T) {
	for _, w := range slices.Concat(wrongLeaves(), wrongStubs(), noRecords(), wrongInner(), wrongFar(), wrongRoots()) {
		if _, is := lookThrough(w.pages, w.root, by(nil)); is == "" {
			t.Fatalf("%s: the test's own tree is none that is wrong", w.what)
		}
		tx := having(t, w.pages...)
		for _, c := range walks(w.root) {
			if !w.byKeys {
				refuses(t, w.what, tx, c, api.ErrBad)
			}
		}
		refuses(t, w.what, tx, goesOver(w.root, nil, nil), api.ErrBad)
		for _, k := range w.keys {
			for _, c := range ofKey(w.root, nil, k) {
				refuses(t, w.what, tx, c, api.ErrBad)
			}
		}
		if t.Failed() {
			t.Fatalf("%s: pages % x", w.what, w.pages[2:4])
		}
	}
}

// TestP131FromMeets: From goes on to the next leaves, which must be as far, and leaves of a tree.
func TestP131FromMeets(t *testing.T) {
	h := threeLevels()
	for _, n := range []int{4, 5, 10} {
		tx := having(t, with(h.pages, n, used(0))...)
		refuses(t, "a leaf behind", tx, goesOver(h.root, nil, key(6)), api.ErrBad)
		refuses(t, "a leaf behind", tx, goesOver(h.root, nil, key(11)), api.ErrBad)
	}
	for _, w := range wrongFar()[:2] {
		refuses(t, w.what, having(t, w.pages...), goesOver(w.root, nil, key(5)), api.ErrBad)
	}
}

// TestP13WrongChains: they are ErrBad where a page is met to whose cells they belong, be it a leaf or an inner page, and nothing has changed.
func TestP13WrongChains(t *testing.T) {
	h := withChains()
	f, _ := lookThrough(h.pages, h.root, by(nil))
	for _, n := range f.chains {
		for _, p := range []api.Page{{}, used(0), raw(0, 0), raw(5, 0), raw(5, 0, "x", "y"), raw(5, uint32(n), "x"), leaf(short(key(5))), {0: 5, 99: 9}} {
			tx := having(t, with(h.pages, n, p)...)
			for _, c := range append(walks(h.root), goesOver(h.root, nil, nil)) {
				refuses(t, "a chain that is none", tx, c, api.ErrBad)
			}
			met := 0
			for _, k := range h.rows {
				if _, e := has(h.root, nil, k).does(tx); e == api.ErrBad {
					met++
					refuses(t, "a chain that is none", tx, insert(h.root, nil, k), api.ErrBad)
					refuses(t, "a chain that is none", tx, del(h.root, nil, k), api.ErrBad)
				}
			}
			if met < 2 {
				t.Fatalf("the wrong chain of page %d is met by %d keys", n, met)
			}
		}
	}
}

// TestP13SharedChains: a chain is one cell's alone; two cells that lead to one, or into it, are wrong wherever both are met: in one leaf, in two, above and below, in one inner page.
func TestP13SharedChains(t *testing.T) {
	pages := database(12)
	row := sized(600, 1)
	stub := lay(pages, recordOf(row), 5, 6, 7)
	into := recordOf(key(strings.Repeat("a", 37) + recordOf(row)[280:])) // it goes on as row does behind the first page of its chain
	tail := lengthBytes(len(into)) + into[:40] + fourBytes(6)
	pages[7], pages[8] = leaf(short(key(1))), leaf(short(key([]byte("z"))))
	inTwo := func(above string, one, two string) []api.Page {
		return with(with(with(pages, 2, inner(4, fourBytes(3)+above)), 3, leaf(one)), 4, leaf(two))
	}
	if f, is := lookThrough(inTwo(short(key("a")), stub, tail), 2, nil); is == "" || f.rows != nil {
		t.Fatal("the test's own tree is none that is wrong")
	}
	for what, p := range map[string][]api.Page{
		"in one leaf":      with(pages, 2, leaf(stub, stub)),
		"into another's":   with(pages, 2, leaf(tail, stub)),
		"above and below":  inTwo(stub, stub, short(key([]byte("z")))),
		"above, into it":   inTwo(stub, tail, short(key([]byte("z")))),
		"in two leaves":    inTwo(short(key("b")), tail, stub),
		"in an inner page": with(pages, 2, inner(9, fourBytes(8)+tail, fourBytes(4)+stub)),
	} {
		tx := having(t, p...)
		for _, c := range append(walks(2), goesOver(2, nil, nil)) {
			refuses(t, what, tx, c, api.ErrBad)
		}
		for _, c := range ofKey(2, nil, key("aa")) {
			if what != "in two leaves" { // one way meets but one of them
				refuses(t, what, tx, c, api.ErrBad)
			}
		}
	}
}

// TestP13FreePages: free pages that are not in order are ErrBad where so many are taken, also in the midst of a change, and nothing has changed.
func TestP13FreePages(t *testing.T) {
	full := fullLeaves()[0]
	n := uint32(len(full.pages))
	for _, c := range []struct {
		free []api.Page // behind all others, from the first one on
		good int        // how many can be taken
	}{
		{[]api.Page{used(4)}, 0}, {[]api.Page{raw(0, n+2), used(5)}, 1}, {[]api.Page{raw(0, n+2), raw(0, n+3), leaf()}, 2}, // a page that is none, at the first, second, third place
		{[]api.Page{raw(0, n+1)}, 1}, {[]api.Page{raw(0, n+2), raw(0, n+1)}, 2}, // a circle
		{[]api.Page{raw(0, 1)}, 1}, {[]api.Page{raw(0, 99)}, 1}, {[]api.Page{raw(0, uint32(full.root))}, 1},
	} {
		pages := append(slices.Clone(full.pages), c.free...)
		pages[0] = firstPage(n + 1)
		tx := having(t, pages...)
		for _, k := range [][]api.Value{sized(41, 1), sized(281, 1), sized(4000, 1)} {
			refuses(t, "a chain, and two halves", tx, insert(full.root, nil, k), api.ErrBad)
		}
		if c.good < 2 {
			refuses(t, "two halves", tx, insert(full.root, nil, key(9)), api.ErrBad)
		}
		stands(t, seen(t, tx), full.root, nil, full.rows)
		refuses(t, "there", tx, insert(full.root, nil, full.rows[0]), api.ErrThere)
		refuses(t, "not there", tx, del(full.root, nil, key(9)), api.ErrNone)
	}
}

// TestP13WrongBeside: where the page beside is met in the midst of Delete, and is none of a tree's, the key and its chain are as they were.
func TestP13WrongBeside(t *testing.T) {
	k := numbered(7, 500)
	for _, beside := range []api.Page{used(0), {}, leaf(), leaf(short(key(1))), leaf(shorts(ints(50, 49)...)...), inner(4, child(2, key(50))), raw(3, 3, short(key(50))), {0: 9}} {
		pages := database(8)
		stub := lay(pages, recordOf(k), 6, 5)
		pages[1] = inner(4, child(3, key(20)))
		pages[2] = leaf(stub)
		pages[3] = beside
		refuses(t, "behind", having(t, pages...), del(2, nil, k), api.ErrBad)
		pages[1] = inner(3, child(4, key(5)))
		if beside == leaf(short(key(1))) {
			continue // it may stand ahead
		}
		refuses(t, "ahead", having(t, pages...), del(2, nil, k), api.ErrBad)
	}
}

// TestP13WrongBesideAbove: likewise where it is met on the level above, behind leaves that were joined.
func TestP13WrongBesideAbove(t *testing.T) {
	h := threeLevels()
	for _, beside := range []api.Page{used(0), {}, inner(10), leaf(short(key(15))), inner(10, child(4, key(9)))} {
		tx := having(t, with(h.pages, 3, beside)...)
		refuses(t, "an inner page behind", tx, del(h.root, nil, key(6)), api.ErrBad)
		refuses(t, "an inner page behind", tx, del(h.root, nil, key(1)), api.ErrBad)
	}
}

// TestP13CutFile: pages that went away behind the transaction's back are none of a tree.
func TestP13CutFile(t *testing.T) {
	h := threeLevels()
	d := disk.New(plenty)
	s := opened(t, d, false)
	tx := writing(t, s)
	for i, p := range h.pages {
		want(t, "Put", tx.Put(i+1, p), api.OK)
	}
	want(t, "Commit", tx.Commit(), api.OK)
	tx = writing(t, s)
	want(t, "Truncate", d.Truncate("db", 3*api.PageSize), api.OK)
	for _, c := range ofRoot(h.root, nil, key(5)) {
		if answer, e := c.does(tx); answer || e != api.ErrBad {
			t.Errorf("%s of pages that went away: %v", c.name, e)
		}
	}
}
