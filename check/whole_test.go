package check_test

import (
	"math"
	"slices"
	"testing"

	"bureau/api"
	"bureau/check"
)

// TestP141Whole: databases of each form are whole with the trees that are there, in whatever order these are told.
func TestP141Whole(t *testing.T) {
	for _, d := range append(allLaid(), small()...) {
		whole(t, d.what, d.pages, d.forest, api.OK)
		forest := slices.Clone(d.forest)
		slices.Reverse(forest)
		whole(t, d.what, d.pages, forest, api.OK)
	}
}

// TestP141NoPages: there is no first page; with a root, there is none of the pages.
func TestP141NoPages(t *testing.T) {
	for _, pages := range [][]api.Page{nil, {}} {
		whole(t, "no forest", pages, nil, api.ErrBad)
		whole(t, "an empty forest", pages, []api.Root{}, api.ErrBad)
		for _, n := range []int{-1, 0, 1, 2} {
			whole(t, "a root", pages, []api.Root{{Page: n}}, api.ErrArg)
		}
	}
}

// TestP141Roots: a root that is none of the pages, or that is told twice, is ErrArg, ahead of whatever is wrong with the pages.
func TestP141Roots(t *testing.T) {
	for _, d := range append(allLaid(), small()...) {
		count := len(d.pages)
		spoilt := with(d.pages, 1, api.Page{})
		for _, n := range []int{math.MinInt, math.MinInt32, -count, -1, 0, count + 1, count + 2, 1 << 32, math.MaxInt} {
			for _, r := range []api.Root{{Page: n}, {Page: n, Keys: true, Order: []api.Order{{Desc: true}}}} {
				whole(t, d.what, d.pages, append(slices.Clone(d.forest), r), api.ErrArg)
				whole(t, d.what, d.pages, append([]api.Root{r}, d.forest...), api.ErrArg)
				whole(t, "spoilt", spoilt, append(slices.Clone(d.forest), r), api.ErrArg)
				whole(t, "spoilt, twice none", spoilt, []api.Root{r, r}, api.ErrArg)
			}
		}
		for i, r := range d.forest {
			for _, other := range []api.Root{r, {Page: r.Page}, {Page: r.Page, Keys: true}, {Page: r.Page, Keys: !r.Keys, Order: []api.Order{{}}}} {
				twice := slices.Insert(slices.Clone(d.forest), (i+2)%len(d.forest), other)
				whole(t, d.what, d.pages, twice, api.ErrArg)
				whole(t, "spoilt", spoilt, twice, api.ErrArg)
			}
		}
		whole(t, "page 1 twice", d.pages, []api.Root{{Page: 1}, {Page: 1, Keys: true}}, api.ErrArg)
		whole(t, "spoilt", spoilt, d.forest, api.ErrBad)
	}
}

// TestP141OtherForests: whatever is told of the roots, the answer is what the words say.
func TestP141OtherForests(t *testing.T) {
	for _, d := range append(small(), allLaid()[:8]...) {
		for n := range len(d.pages) + 2 {
			for _, r := range []api.Root{{Page: n}, {Page: n, Keys: true}, {Page: n, Keys: true, Order: []api.Order{{Desc: true}, {Coll: api.CollNoCase}}}} {
				forests := [][]api.Root{{r}, append(slices.Clone(d.forest), r)}
				for i := range d.forest {
					forest := slices.Clone(d.forest)
					forest[i] = r
					forests = append(forests, forest)
				}
				for _, forest := range forests {
					wanted, _ := wholeBy(d.pages, forest)
					whole(t, d.what, d.pages, forest, wanted)
				}
			}
		}
	}
}

// TestP141Nothing: a page that belongs to nothing is ErrBad, of whatever kind it is; so is a tree that is not told.
func TestP141Nothing(t *testing.T) {
	for _, d := range append(allLaid(), small()...) {
		for _, p := range []api.Page{{}, raw(0, 1), raw(0, 2), raw(1, 0), raw(1, 0, row(5, "five")), raw(2, 2, below(2, 5)), raw(3, 0), raw(3, 0, short(key(5))), raw(4, 2, under(2, key(5))), raw(5, 0, "x"), firstPage(0)} {
			whole(t, d.what+", and a page more", append(slices.Clone(d.pages), p), d.forest, api.ErrBad)
		}
		for i := range d.forest {
			whole(t, d.what+", a tree less", d.pages, slices.Delete(slices.Clone(d.forest), i, i+1), api.ErrBad)
		}
		if len(d.forest) > 0 {
			whole(t, d.what+", no forest", d.pages, nil, api.ErrBad)
		}
		for _, n := range d.free {
			cut := with(d.pages, n, raw(0, 0))
			if n != d.free[len(d.free)-1] {
				whole(t, d.what+", free pages that nothing leads to", cut, d.forest, api.ErrBad)
				frees(t, d.what, cut, d.free[:slices.Index(d.free, n)+1])
			}
		}
		if len(d.free) > 0 {
			none := with(d.pages, 1, firstPage(0))
			whole(t, d.what+", no free page is told", none, d.forest, api.ErrBad)
			frees(t, d.what, none, nil)
		}
	}
}

// TestP141Kinds: a root of another kind than is told is ErrBad.
func TestP141Kinds(t *testing.T) {
	for _, d := range append(allLaid(), small()...) {
		for i, r := range d.forest {
			forest := slices.Clone(d.forest)
			forest[i].Keys = !r.Keys
			whole(t, d.what+", of the other kind", d.pages, forest, api.ErrBad)
		}
		others := append([]int{1}, d.free...)
		for n, p := range d.pages {
			if p[0] == 5 {
				others = append(others, n+1)
			}
		}
		for _, n := range others {
			whole(t, d.what+", no root", d.pages, append(slices.Clone(d.forest), api.Root{Page: n}), api.ErrBad)
			whole(t, d.what+", no root", d.pages, append(slices.Clone(d.forest), api.Root{Page: n, Keys: true}), api.ErrBad)
			noRows(t, d.what+", no root", d.pages, n, api.ErrBad)
			noKeys(t, d.what+", no root", d.pages, n, nil, api.ErrBad)
		}
	}
}

// pagesThatMayNotBe is ways to make one of a page.
func pagesThatMayNotBe(p api.Page) []api.Page {
	kind, ends, none, long, many := p, p, p, p, p
	kind[0] |= 0x80
	ends[api.PageSize-1]++
	if p[1] == 0 {
		none[1] = 1
	}
	none[6], long[6], many[1] = 0, 61, 255
	if p[1] == 0 {
		long[1] = 1
	}
	return []api.Page{kind, ends, none, long, many}
}

// TestP141MayNotBe: a page that may not be is ErrBad, whatever it is there for.
func TestP141MayNotBe(t *testing.T) {
	for _, d := range append(small(), forests()...) {
		for i, p := range d.pages {
			for _, q := range pagesThatMayNotBe(p) {
				whole(t, d.what+", a page that may not be", with(d.pages, i+1, q), d.forest, api.ErrBad)
			}
		}
		for _, q := range pagesThatMayNotBe(api.Page{}) {
			whole(t, d.what+", one more that may not be", append(slices.Clone(d.pages), q), d.forest, api.ErrBad)
		}
	}
}

// inTwo is databases in which a page belongs to two things, and all else is as it should be.
func inTwo() []laid {
	var all []laid
	add := func(what string, count int, lays func(l *layer)) {
		l := newLayer(what, count)
		lays(l)
		all = append(all, l.done())
	}
	rows := numbered(3, 1, 2, 11, 12, 21, 22)
	add("a leaf of two trees of rows", 6, func(l *layer) {
		leaves := []int{l.rowsLeaf(rows[:2]...), l.rowsLeaf(rows[2:4]...), l.rowsLeaf(rows[4:]...)}
		l.ofRows(l.rowsInner(leaves[:2], 10), rows[:4]...)
		l.ofRows(l.rowsInner(leaves[1:], 20), rows[2:]...)
	})
	add("a leaf of two trees of keys", 6, func(l *layer) {
		k := ints(1, 2, 3)
		leaves := []int{l.keysLeaf(k[0]), l.keysLeaf(k[1]), l.keysLeaf(k[2])}
		l.ofKeys(l.keysInner(leaves[:2], k[0]), nil, k[:2]...)
		l.ofKeys(l.keysInner(leaves[1:], k[1]), []api.Order{{}}, k[1:]...)
	})
	add("a root in another tree of rows", 5, func(l *layer) {
		leaves := []int{l.rowsLeaf(rows[:2]...), l.rowsLeaf(rows[2:4]...)}
		l.ofRows(l.rowsInner(leaves, 10), rows[:4]...)
		l.ofRows(leaves[1], rows[2:4]...)
	})
	add("a root in another tree of keys, told first", 5, func(l *layer) {
		k := ints(1, 2)
		leaves := []int{l.keysLeaf(k[0]), l.keysLeaf(k[1])}
		l.ofKeys(leaves[0], nil, k[0])
		l.ofKeys(l.keysInner(leaves, k[0]), nil, k...)
	})
	return append(all, chainsInTwo()...)
}

// chainsInTwo is databases in which a chain belongs to cells of two trees.
func chainsInTwo() []laid {
	var all []laid
	add := func(what string, count int, lays func(l *layer, stub string, k []api.Value)) {
		l, k := newLayer(what, count), sized(600, 1)
		lays(l, l.stub(recordOf(k)), k)
		all = append(all, l.done())
	}
	rows := func(l *layer, stub string, n int64) {
		r := []api.RowAt{{Key: n, Data: recordOf(sized(600, 1))}}
		l.ofRows(l.put(raw(1, 0, number(n)+stub)), r...)
	}
	add("a chain of rows of two trees", 8, func(l *layer, stub string, k []api.Value) {
		rows(l, stub, 4)
		rows(l, stub, 4)
	})
	add("a chain of keys of two trees", 8, func(l *layer, stub string, k []api.Value) {
		for range 2 {
			l.ofKeys(l.put(raw(3, 0, stub)), nil, k)
		}
	})
	add("a chain of a row and of a key", 8, func(l *layer, stub string, k []api.Value) {
		rows(l, stub, 1)
		l.ofKeys(l.put(raw(3, 0, short(key(1)), stub)), nil, key(1), k)
	})
	add("a chain of a key above and of a row", 10, func(l *layer, stub string, k []api.Value) {
		leaves := []int{l.keysLeaf(key(1)), l.keysLeaf(key([]byte("b")))}
		l.ofKeys(l.put(raw(4, leaves[1], fourBytes(leaves[0])+stub)), nil, key(1), key([]byte("b")))
		rows(l, stub, 1)
	})
	add("a chain into that of another tree", 9, func(l *layer, stub string, k []api.Value) {
		l.ofKeys(l.put(raw(3, 0, stub)), nil, k)
		into := dataOf(40, 3) + recordOf(k)[280:]
		l.ofRows(l.put(raw(1, 0, number(5)+stubOf(into, 3))), api.RowAt{Key: 5, Data: into})
	})
	return all
}

// TestP141InTwo: a page that belongs to two things is ErrBad, though each of them is as it should be.
func TestP141InTwo(t *testing.T) {
	for _, d := range inTwo() {
		if e, wrong := wholeBy(d.pages, d.forest); e != api.ErrBad || wrong != "a page that is none, or is met twice" {
			t.Errorf("%s: the test's own is %q", d.what, wrong)
		}
		whole(t, d.what, d.pages, d.forest, api.ErrBad)
		frees(t, d.what, d.pages, d.free)
		for _, r := range d.forest {
			hasTree(t, d.what, d.pages, r, d)
		}
	}
}

// TestP141FreeInTwo: a page that is free, too, is ErrBad: it is none of a tree's or of a chain's then, or none that is free.
func TestP141FreeInTwo(t *testing.T) {
	for _, d := range append(small(), forests()...) {
		for i, p := range d.pages[1:] {
			if p[0] != 0 {
				whole(t, d.what+", a page in use is told free", with(d.pages, 1, firstPage(i+2)), d.forest, api.ErrBad)
				whole(t, d.what+", a page in use is free", with(with(d.pages, 1, firstPage(i+2)), i+2, raw(0, append(d.free, 0)[0])), d.forest, api.ErrBad)
			}
		}
	}
}

// TestP141Orders: keys that do not rise by the orders that are told are ErrBad; by others by which they rise they are whole, too.
func TestP141Orders(t *testing.T) {
	orders := [][]api.Order{nil, {}, {{}}, {{Desc: true}}, {{Coll: api.CollNoCase}}, {{Coll: api.CollRTrim}}, {{Coll: 7}}, {{Coll: -1, Desc: true}}, {{}, {Desc: true}}, {{Coll: api.CollNoCase, Desc: true}, {Coll: api.CollRTrim}}, make([]api.Order, 20)}
	lists := [][][]api.Value{ints(1, 2, 3), ints(3, 2, 1), {key("a"), key("B")}, {key("B"), key("a")}, {key("a"), key("a "), key("b")}, {key("A"), key("a")}, {key(1, 2), key(1, 1)}, {key(), key(nil), key(nil, nil)}, {key(5), key(5, 1), key(4)}, {key("x")}, {}}
	good := 0
	for _, rows := range lists {
		l := newLayer("keys in one order or other", 3)
		l.ofKeys(l.keysLeaf(rows...), nil, rows...)
		d := l.done()
		for _, order := range orders {
			forest := []api.Root{{Page: 2, Keys: true, Order: order}}
			wanted, _ := wholeBy(d.pages, forest)
			whole(t, d.what, d.pages, forest, wanted)
			if wanted == api.OK {
				good++
				hasKeys(t, d.what, d.pages, 2, order, rows)
			} else {
				noKeys(t, d.what, d.pages, 2, order, api.ErrBad)
			}
		}
	}
	if n := len(lists) * len(orders); good < n/4 || good > n*3/4 {
		t.Errorf("of %d %d are whole", n, good)
	}
}

// TestP141RowsWithOrders: what is told of orders says nothing of a tree of rows.
func TestP141RowsWithOrders(t *testing.T) {
	for _, d := range small() {
		forest := slices.Clone(d.forest)
		for i := range forest {
			if !forest[i].Keys {
				forest[i].Order = []api.Order{{Desc: true}, {Coll: 9}}
			}
		}
		whole(t, d.what, d.pages, forest, api.OK)
	}
}

// TestP141Examples: the chapter's.
func TestP141Examples(t *testing.T) {
	one := []api.Page{firstPage(0)}
	whole(t, "the first page alone", one, nil, api.OK)
	whole(t, "a free page that it does not lead to", append(one, raw(0, 0)), nil, api.ErrBad)
	whole(t, "no pages", nil, nil, api.ErrBad)
	whole(t, "a root 2 where there is one page", one, []api.Root{{Page: 2}}, api.ErrArg)
}

// TestP14Unchanged: what is handed in is not changed, spare room behind it included, and is not kept.
func TestP14Unchanged(t *testing.T) {
	for _, d := range small() {
		pages := append(slices.Clone(d.pages), raw(1, 9, "behind"))
		forest := append(slices.Clone(d.forest), api.Root{Page: 77})
		before, told := slices.Clone(pages), slices.Clone(forest)
		whole(t, d.what, pages[:len(d.pages)], forest[:len(d.forest)], api.OK)
		frees(t, d.what, pages[:len(d.pages)], d.free)
		for _, r := range d.forest {
			check.Rows(pages[:len(d.pages)], r.Page)
			check.Keys(pages[:len(d.pages)], r.Page, r.Order)
		}
		if !slices.Equal(before, pages) {
			t.Errorf("%s: a page was changed", d.what)
		}
		if !slices.EqualFunc(told, forest, func(a, b api.Root) bool {
			return a.Page == b.Page && a.Keys == b.Keys && slices.Equal(a.Order, b.Order)
		}) {
			t.Errorf("%s: the forest was changed", d.what)
		}
	}
}
