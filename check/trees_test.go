package check_test

import (
	"math"
	"runtime/debug"
	"slices"
	"strings"
	"testing"

	"bureau/api"
	"bureau/check"
)

// TestP142Trees: Rows and Keys tell what each tree holds, rising.
func TestP142Trees(t *testing.T) {
	for _, d := range append(allLaid(), small()...) {
		for _, r := range d.forest {
			hasTree(t, d.what, d.pages, r, d)
		}
	}
}

// TestP142Args: a root that is none of the pages is ErrArg, whatever the pages are.
func TestP142Args(t *testing.T) {
	for _, d := range append(small(), laid{what: "no pages"}, laid{what: "a page that may not be", pages: []api.Page{{9}}}) {
		count := len(d.pages)
		for _, n := range []int{math.MinInt, math.MinInt32, -1, 0, count + 1, count + 2, 1 << 32, math.MaxInt} {
			noRows(t, d.what, d.pages, n, api.ErrArg)
			noKeys(t, d.what, d.pages, n, nil, api.ErrArg)
			noKeys(t, d.what, d.pages, n, []api.Order{{Desc: true}}, api.ErrArg)
		}
	}
	noRows(t, "a page that may not be", []api.Page{{9}}, 1, api.ErrBad)
	noKeys(t, "a page that may not be", []api.Page{{9}}, 1, nil, api.ErrBad)
}

// TestP142AnyRoot: whatever page is told as a root, the answer is what the words say; also of the pages below the roots that there are.
func TestP142AnyRoot(t *testing.T) {
	for _, d := range append(small(), forests()...) {
		good := 0
		for n := 1; n <= len(d.pages); n++ {
			good += agreesAt(t, d.what, d.pages, api.Root{Page: n})
			for _, order := range [][]api.Order{nil, {{Desc: true}}, {{Coll: api.CollRTrim, Desc: true}, {Coll: api.CollNoCase}}} {
				good += agreesAt(t, d.what, d.pages, api.Root{Page: n, Keys: true, Order: order})
			}
		}
		if good < len(d.forest) {
			t.Errorf("%s: %d trees, not %d", d.what, good, len(d.forest))
		}
	}
}

// agreesAt fails the test unless Rows, or Keys, answers what the words say; 1 if there is a tree.
func agreesAt(t *testing.T, what string, pages []api.Page, r api.Root) int {
	t.Helper()
	rows, keys, e := treeBy(pages, r)
	switch {
	case e != api.OK:
		noTree(t, what, pages, r, e)
		return 0
	case r.Keys:
		hasKeys(t, what, pages, r.Page, r.Order, keys)
	default:
		hasRows(t, what, pages, r.Page, rows)
	}
	return 1
}

// TestP142TreesAlone: what the pages hold that are none of the tree's, the first one too, is nothing to Rows and Keys.
func TestP142TreesAlone(t *testing.T) {
	for _, d := range small() {
		for _, r := range d.forest {
			l := looker{pages: d.pages}
			l.things(r)
			for _, p := range []api.Page{{}, {9}, {0: 1, 255: 1}, raw(0, 1), raw(5, 0, "x"), raw(2, 0)} {
				pages := slices.Repeat([]api.Page{p}, len(d.pages))
				for _, n := range l.met {
					pages[n-1] = d.pages[n-1]
				}
				hasTree(t, d.what, pages, r, d)
			}
		}
	}
}

// TestP142New: an answer is new memory, and no two keys of one share any.
func TestP142New(t *testing.T) {
	for _, d := range small() {
		for _, r := range d.forest {
			if !r.Keys {
				rows, _ := check.Rows(d.pages, r.Page)
				clear(rows[:cap(rows)])
				hasRows(t, d.what, d.pages, r.Page, d.rows[r.Page])
				continue
			}
			one, _ := check.Keys(d.pages, r.Page, r.Order)
			two, _ := check.Keys(d.pages, r.Page, r.Order)
			for i := range one {
				rest := slices.Clone(one[i+1:])
				clear(one[i][:cap(one[i])])
				if !same(rest, d.keys[r.Page][i+1:]) {
					t.Errorf("%s: keys share memory", d.what)
				}
			}
			if !same(two, d.keys[r.Page]) {
				t.Errorf("%s: answers share memory", d.what)
			}
		}
	}
}

// spoilt is a database one of whose trees is none.
type spoilt struct {
	what  string
	pages []api.Page
	root  api.Root
	whole []api.Root // the forest
}

// spoils is databases by a page of which one thing or other stands in the place of what it was.
type spoils struct {
	base laid
	root api.Root
	all  []spoilt
}

func (s *spoils) add(what string, n int, p api.Page) {
	s.all = append(s.all, spoilt{what, with(s.base.pages, n, p), s.root, s.base.forest})
}

// threeLevels is a database of a tree of three levels, with that of its leaf that is in the midst, and of the inner page above.
func threeLevels(lays func(l *layer) (int, []int)) (s spoils, leaf, inner int) {
	l := newLayer("three levels", 14)
	root, leaves := lays(l)
	s = spoils{base: l.done()}
	s.root = s.base.forest[0]
	return s, leaves[2], root - 1
}

func rowsLevels() (s spoils, leaf, inner int) {
	return threeLevels(func(l *layer) (int, []int) { return l.threeOfRows(3) })
}

func keysLevels() (s spoils, leaf, inner int) {
	return threeLevels(func(l *layer) (int, []int) { return l.threeOfKeys(12, nil) })
}

// noStubs is texts that are no stubs, or stubs and more.
func noStubs() []string {
	long := strings.Repeat("y", 40)
	return []string{
		"\x01", "\x02a", "\x03ab", "\x00a", "\x01ab", "\x03abcd", // too few bytes, too many
		"\x28" + long[:39], "\x28" + long + "x", "\x29" + long, "\x29" + long + "\x00\x00\x00", "\x29" + long + "\x00\x00\x00\x0dx",
		"\x7f" + long, "\x81\x00" + long, "\x81\x00" + long + "\x00\x00\x00", "\x81\x00" + long + "\x00\x00\x00\x0dx",
		"\x80", "\x81", "\x9f", "\xff", "\x80\x00", "\x80\x01a", "\x80\x29" + long + "\x00\x00\x00\x0d", // a length that is cut short, or longer than it needs
		"\x9f\x21" + long + "\x00\x00\x00\x0d", "\xa0\x00" + long + "\x00\x00\x00\x0d", "\xff\x7f" + long + "\x00\x00\x00\x0d", // above 4000
		"\x81\x80\x00" + long + "\x00\x00\x00\x0d", "\x80\x80\x29", "\x81\x80", "\x81\x80" + long + "\x00\x00\x00\x0d",
		"\xff\xff\xff\xff\xff\xff\xff\xff\xff", "\xff\xff\xff\xff\xff\xff\xff\xff\xff" + long, "\x81\x80\x80\x80\x80\x80\x80\x80\x00" + long + "\x00\x00\x00\x0d",
		"\x29" + long + "\x00\x00\x00\x00", "\x29" + long + "\x00\x00\x00\x0d", "\x29" + long + "\x00\x00\x00\x63", "\x29" + long + "\xff\xff\xff\xff", // a chain that is none
	}
}

// spoiltRows is trees of rows that are none, in each way that layer 12 names.
func spoiltRows() []spoilt {
	s, leaf, inner := rowsLevels() // below the leaf just the rows 11 to 20 can be, and above the inner page's children those from 11 on
	for _, kind := range []byte{0, 2, 3, 4, 5} {
		s.add("another kind", leaf, raw(kind, 0, rowsOf(15)...))
	}
	s.add("an empty leaf", leaf, raw(1, 0))
	for _, link := range []int{leaf, 1, 13, 1 << 31} {
		s.add("a leaf with a link", leaf, raw(1, link, rowsOf(15)...))
	}
	for _, n := range []int{1, 4, 7, 8} {
		cell := row(15, "15")[:n]
		s.add("a cell that is too short", leaf, raw(1, 0, cell))
		s.add("a cell that is too short", leaf, raw(1, 0, row(12, "12"), cell))
		s.add("a cell that is too short", leaf, raw(1, 0, cell, row(16, "16")))
	}
	for _, n := range []int64{least, -1, 0, 9, 10, 21, 30, most} {
		s.add("a number outside", leaf, raw(1, 0, row(n, "")))
		s.add("a number outside", leaf, raw(1, 0, row(n, ""), row(15, "")))
		s.add("a number outside", leaf, raw(1, 0, row(15, ""), row(n, "")))
	}
	for _, numbers := range [][]int64{{15, 15}, {15, 14}, {11, 13, 12}, {12, 11, 20}, {11, 20, 20}, {20, 11}, {11, 12, 12, 13}} {
		s.add("numbers that do not rise", leaf, raw(1, 0, rowsOf(numbers...)...))
	}
	for _, stub := range noStubs() {
		s.add("a stub that is none", leaf, raw(1, 0, number(15)+stub))
		s.add("a stub that is none", leaf, raw(1, 0, row(12, "12"), number(15)+stub))
		s.add("a stub that is none", leaf, raw(1, 0, number(15)+stub, row(16, "16")))
	}
	s.innerRows(leaf, inner)
	return s.all
}

func (s *spoils) innerRows(leaf, inner int) {
	for _, kind := range []byte{0, 1, 3, 4, 5} {
		s.add("another kind", inner, raw(kind, leaf+2, below(leaf, 20), below(leaf+1, 30)))
	}
	s.add("no cells", inner, raw(2, leaf))
	s.add("no cells", s.root.Page, raw(2, inner))
	child := fourBytes(leaf)
	for _, c := range []string{"x", below(leaf, 20)[:8], below(leaf, 20)[:11], below(leaf, 20) + "x", row(20, ""), number(20) + child[3:], number(20) + child[1:], number(20) + "\x00" + child, number(20) + "\x00\x00\x00\x00" + child} {
		s.add("a cell that is too short or too long", inner, raw(2, leaf+2, c, below(leaf+1, 30)))
		s.add("a cell that is too short or too long", inner, raw(2, leaf+2, below(leaf, 20), c))
	}
	for _, n := range [][2]int64{{20, 20}, {30, 20}, {10, 30}, {0, 30}, {19, 30}, {20, 29}, {21, 30}, {20, 31}, {20, most}, {least, most}} {
		s.add("numbers that do not part", inner, raw(2, leaf+2, below(leaf, n[0]), below(leaf+1, n[1])))
	}
	s.add("numbers that do not part", s.root.Page, raw(2, inner, below(inner-1, 9)))
	s.add("numbers that do not part", s.root.Page, raw(2, inner, below(inner-1, 11)))
	s.children(2, func(child int, right bool) string {
		if right {
			return below(child, 30)
		}
		return below(child, 20)
	}, leaf, inner)
}

// children puts other pages in the place of each child.
func (s *spoils) children(kind byte, cell func(child int, right bool) string, leaf, inner int) {
	for _, n := range append(upTo(0, 16), 4096, 4097, 1<<16, 1<<24+leaf, 1<<31, 1<<32-1) {
		if n != leaf {
			s.add("another child", inner, raw(kind, leaf+2, cell(n, false), cell(leaf+1, true)))
		}
		if n != leaf+1 {
			s.add("another child", inner, raw(kind, leaf+2, cell(leaf, false), cell(n, true)))
		}
		if n != leaf+2 {
			s.add("another child", inner, raw(kind, n, cell(leaf, false), cell(leaf+1, true)))
		}
	}
}

// spoiltKeys is trees of keys that are none, in each way that layer 13 names.
func spoiltKeys() []spoilt {
	s, leaf, inner := keysLevels() // the leaf holds 40 and 50, and is below that; those ahead end with 30
	k := func(n int) []api.Value { return sized(12, n) }
	for _, kind := range []byte{0, 1, 2, 4, 5} {
		s.add("another kind", leaf, raw(kind, 0, short(k(45))))
	}
	s.add("an empty leaf", leaf, raw(3, 0))
	for _, link := range []int{leaf, 1, 13, 1 << 31} {
		s.add("a leaf with a link", leaf, raw(3, link, short(k(45))))
	}
	for _, out := range [][]api.Value{key(), key(nil), key(0), k(30), k(29), key("a"), append(k(50), key(nil)...), k(51), k(60), key([]byte{})} {
		s.add("a key outside", leaf, raw(3, 0, short(out)))
		s.add("a key outside", leaf, raw(3, 0, short(out), short(k(45))))
		s.add("a key outside", leaf, raw(3, 0, short(k(45)), short(out)))
	}
	for _, n := range [][]int{{45, 45}, {45, 44}, {41, 43, 42}, {42, 41, 50}, {41, 50, 50}, {50, 41}, {41, 42, 42, 43}} {
		var cells []string
		for _, i := range n {
			cells = append(cells, short(k(i)))
		}
		s.add("keys that do not rise", leaf, raw(3, 0, cells...))
	}
	noRecords := []string{"\x00", "\x01\x01", "\x02\x01\x01", "\x02\x00\x00", "\x03\x01\x01\x00", "\x04\x01\x02\x00\x0f", "\x02\x01\x0b", "\x03\x01\x80\x00", "\x02\x11\x00", "\x12\x11" + strings.Repeat("\x00", 17), short(k(45)) + "\x00", "\x0d" + recordOf(k(45)) + "\x00"}
	for _, stub := range append(noStubs(), noRecords...) {
		s.add("a stub that is none, or that of no record", leaf, raw(3, 0, stub))
		s.add("a stub that is none, or that of no record", leaf, raw(3, 0, short(k(41)), stub))
		s.add("a stub that is none, or that of no record", leaf, raw(3, 0, stub, short(k(45))))
		s.add("a stub above that is none, or that of no record", inner, raw(4, leaf+2, fourBytes(leaf)+stub, under(leaf+1, k(70))))
		s.add("a stub above that is none, or that of no record", inner, raw(4, leaf+2, under(leaf, k(50)), fourBytes(leaf+1)+stub))
	}
	s.innerKeys(leaf, inner, k)
	return s.all
}

func (s *spoils) innerKeys(leaf, inner int, k func(n int) []api.Value) {
	for _, kind := range []byte{0, 1, 2, 3, 5} {
		s.add("another kind", inner, raw(kind, leaf+2, under(leaf, k(50)), under(leaf+1, k(70))))
	}
	s.add("no cells", inner, raw(4, leaf))
	s.add("no cells", s.root.Page, raw(4, inner))
	for _, c := range []string{"x", "\x00\x00\x00", fourBytes(leaf), under(leaf, k(50))[:5], under(leaf, k(50))[:7], under(leaf, k(50)) + "x"} {
		s.add("a cell that is too short or too long", inner, raw(4, leaf+2, c, under(leaf+1, k(70))))
		s.add("a cell that is too short or too long", inner, raw(4, leaf+2, under(leaf, k(50)), c))
	}
	for _, p := range [][2][]api.Value{{k(50), k(50)}, {k(70), k(50)}, {k(30), k(70)}, {key(), k(70)}, {k(49), k(70)}, {k(50), k(69)}, {k(60), k(70)}, {k(50), k(80)}, {k(50), key([]byte{})}, {append(k(50), key(nil)...), k(65)}} {
		s.add("keys that do not part", inner, raw(4, leaf+2, under(leaf, p[0]), under(leaf+1, p[1])))
	}
	s.add("keys that do not part", s.root.Page, raw(4, inner, under(inner-1, k(29))))
	s.add("keys that do not part", s.root.Page, raw(4, inner, under(inner-1, k(40))))
	s.children(4, func(child int, right bool) string {
		if right {
			return under(child, k(70))
		}
		return under(child, k(50))
	}, leaf, inner)
}

// spoiltFar is trees whose leaves are not as far from the root.
func spoiltFar() []spoilt {
	var all []spoilt
	add := func(what string, lays func(l *layer)) {
		l := newLayer(what, 9)
		lays(l)
		d := l.done()
		all = append(all, spoilt{what, d.pages, d.forest[0], d.forest})
	}
	r, k := numbered(1, 1, 2, 3), ints(1, 2, 3)
	add("the first leaf of rows is nearer", func(l *layer) {
		one := l.rowsLeaf(r[0])
		l.ofRows(l.rowsInner([]int{one, l.rowsInner([]int{l.rowsLeaf(r[1]), l.rowsLeaf(r[2])}, 2)}, 1))
	})
	add("the last leaf of rows is nearer", func(l *layer) {
		two := l.rowsInner([]int{l.rowsLeaf(r[0]), l.rowsLeaf(r[1])}, 1)
		l.ofRows(l.rowsInner([]int{two, l.rowsLeaf(r[2])}, 2))
	})
	add("the first leaf of keys is nearer", func(l *layer) {
		one := l.keysLeaf(k[0])
		l.ofKeys(l.keysInner([]int{one, l.keysInner([]int{l.keysLeaf(k[1]), l.keysLeaf(k[2])}, k[1])}, k[0]), nil)
	})
	add("the last leaf of keys is nearer", func(l *layer) {
		two := l.keysInner([]int{l.keysLeaf(k[0]), l.keysLeaf(k[1])}, k[0])
		l.ofKeys(l.keysInner([]int{two, l.keysLeaf(k[2])}, k[1]), nil)
	})
	return all
}

// spoiltShared is trees in which two cells lead to one chain, or into it.
func spoiltShared() []spoilt {
	var all []spoilt
	k := sized(600, 1)
	into := recordOf(key(strings.Repeat("a", 37) + recordOf(k)[280:])) // it goes on as k does behind the first page of its chain
	add := func(what string, lays func(l *layer, stub, tail string) api.Root) {
		l := newLayer(what, 9)
		stub := l.stub(recordOf(k))
		tail := stubOf(into, int(valueOf(stub[len(stub)-4:]))+1)
		root := lays(l, stub, tail)
		l.forest = []api.Root{root}
		d := l.done()
		all = append(all, spoilt{what, d.pages, root, d.forest})
	}
	rows := func(n int) api.Root { return api.Root{Page: n} }
	keys := func(n int) api.Root { return api.Root{Page: n, Keys: true} }
	add("two rows of a leaf", func(l *layer, stub, _ string) api.Root {
		return rows(l.put(raw(1, 0, number(1)+stub, number(2)+stub)))
	})
	add("two rows of a leaf, the one into the other's", func(l *layer, stub, tail string) api.Root {
		return rows(l.put(raw(1, 0, number(1)+stub, number(2)+tail)))
	})
	add("rows of two leaves", func(l *layer, stub, tail string) api.Root {
		return rows(l.rowsInner([]int{l.put(raw(1, 0, number(1)+tail)), l.put(raw(1, 0, number(2)+stub))}, 1))
	})
	add("keys of a leaf", func(l *layer, stub, tail string) api.Root { return keys(l.put(raw(3, 0, tail, stub))) })
	add("keys of two leaves", func(l *layer, stub, tail string) api.Root {
		return keys(l.keysInner([]int{l.put(raw(3, 0, tail)), l.put(raw(3, 0, stub))}, key("b")))
	})
	add("a key above and one below", func(l *layer, stub, _ string) api.Root {
		leaves := []int{l.put(raw(3, 0, stub)), l.keysLeaf(key([]byte("z")))}
		return keys(l.put(raw(4, leaves[1], fourBytes(leaves[0])+stub)))
	})
	add("two keys above", func(l *layer, stub, tail string) api.Root {
		leaves := []int{l.keysLeaf(key(1)), l.keysLeaf(key("b")), l.keysLeaf(key([]byte("z")))}
		return keys(l.put(raw(4, leaves[2], fourBytes(leaves[0])+tail, fourBytes(leaves[1])+stub)))
	})
	return all
}

// spoiltChains is trees with a chain that is not as layer 11 has it, in a leaf or above.
func spoiltChains() []spoilt {
	var all []spoilt
	for _, lays := range []func(l *layer) (int, []int){
		func(l *layer) (int, []int) { return l.threeOfRows(700) },
		func(l *layer) (int, []int) { return l.threeOfKeys(700, nil) },
		func(l *layer) (int, []int) { return l.threeOfKeys(41, nil) },
	} {
		l := newLayer("chains", 60)
		lays(l)
		d := l.done()
		s := spoils{d, d.forest[0], nil}
		for i, p := range d.pages {
			if p[0] == 5 {
				s.chainPage(i+1, p)
			}
		}
		all = append(all, s.all...)
	}
	return slices.Concat(all, chainForms(), chainStubs())
}

// chainStubs is trees of one cell whose stub is none, though there is a chain to which it could lead.
func chainStubs() []spoilt {
	var all []spoilt
	k := sized(300, 4)
	stub := stubOf(recordOf(k), 3)
	head, first := stub[:len(stub)-4], stub[len(stub)-4:]
	for _, other := range []string{head + first[1:], head + first[3:], head + "\x00" + first, head + "\x00\x00\x00\x00" + first, stub + "x", stub + "\x00", "\x80" + stub, stub[:1] + "\x80" + stub[1:]} {
		for kind, cell := range map[byte]string{1: number(1) + other, 3: other} {
			root := api.Root{Page: 2, Keys: kind == 3}
			pages := append([]api.Page{firstPage(0), raw(kind, 0, cell)}, chainOf(recordOf(k), 3, 4)...)
			all = append(all, spoilt{"a stub that is none, with a chain", pages, root, []api.Root{root}})
		}
	}
	long := dataOf(api.MaxRecord+1, 1)
	numbers := upTo(3, 2+pagesFor(len(long)))
	pages := append([]api.Page{firstPage(0), raw(1, 0, number(1)+stubOf(long, 3))}, chainOf(long, numbers...)...)
	return append(all, spoilt{"more than MaxRecord bytes", pages, api.Root{Page: 2}, []api.Root{{Page: 2}}})
}

// chainPage puts others in the place of a page of a chain.
func (s *spoils) chainPage(n int, p api.Page) {
	link, cells, _ := partsOf(p)
	s.add("no page of a chain", n, raw(1, link, cells...))
	s.add("no page of a chain", n, raw(0, link))
	s.add("no cells", n, raw(5, link))
	s.add("a byte more", n, raw(5, link, append([]string{"x" + cells[0]}, cells[1:]...)...))
	s.add("a cell less", n, raw(5, link, cells[1:]...))
	if len(cells) > 1 || len(cells[0]) > 1 {
		return
	}
	s.add("a cell more", n, raw(5, link, cells[0], "x"))
	for _, next := range []int{1, n, n + 1, 59, 60, 61, 1 << 31} {
		s.add("a link at the end", n, raw(5, next, cells...))
	}
}

// chainForms is a tree of one row whose chain of two pages, 240 and 60 + 7 bytes, is laid otherwise.
func chainForms() []spoilt {
	var all []spoilt
	data := dataOf(40+240+67, 5)
	c := func(from, to int) string { return data[40+from : 40+to] }
	good := []string{c(0, 60), c(60, 120), c(120, 180), c(180, 240)}
	for what, pages := range map[string][3]api.Page{
		"a short cell ahead":              {raw(5, 4, c(0, 59), c(59, 119), c(119, 179), c(179, 239), c(239, 240)), raw(5, 0, c(240, 300), c(300, 307))},
		"cells of other sizes":            {raw(5, 4, good...), raw(5, 0, c(240, 247), c(247, 307))},
		"a cell in two":                   {raw(5, 4, good...), raw(5, 0, c(240, 270), c(270, 300), c(300, 307))},
		"fewer bytes in the first page":   {raw(5, 4, good[:3]...), raw(5, 0, c(180, 240), c(240, 300), c(300, 307))},
		"more bytes in the first page":    {raw(5, 4, append(slices.Clone(good), c(240, 244))...), raw(5, 0, c(244, 304), c(304, 307))},
		"a page without cells at the end": {raw(5, 4, good...), raw(5, 5, c(240, 300), c(300, 307)), raw(5, 0)},
		"a page without cells ahead":      {raw(5, 4), raw(5, 5, good...), raw(5, 0, c(240, 300), c(300, 307))},
		"too short":                       {raw(5, 4, good...), raw(5, 0, c(240, 300), c(300, 306))},
		"too long":                        {raw(5, 4, good...), raw(5, 0, c(240, 300), c(300, 307)+"x")},
		"a page less":                     {raw(5, 0, good...), {}},
		"a page more":                     {raw(5, 4, good...), raw(5, 5, c(240, 300), c(300, 307)), raw(5, 0, "x")},
		"a circle":                        {raw(5, 4, good...), raw(5, 3, c(240, 300), c(300, 307))},
		"a page that may not be":          {raw(5, 4, good...), {0: 5, 9: 9}},
		"another kind":                    {raw(5, 4, good...), raw(3, 0, c(240, 300), c(300, 307))},
		"a page that is not there":        {raw(5, 9, good...), raw(5, 0, c(240, 300), c(300, 307))},
	} {
		d := []api.Page{firstPage(0), raw(1, 0, number(1)+stubOf(data, 3)), pages[0], pages[1]}
		if pages[2] != (api.Page{}) {
			d = append(d, pages[2])
		}
		all = append(all, spoilt{what, d, api.Root{Page: 2}, []api.Root{{Page: 2}}})
	}
	slices.SortFunc(all, func(a, b spoilt) int { return strings.Compare(a.what, b.what) })
	return all
}

// spoiltRoots is roots that are none.
func spoiltRoots() []spoilt {
	s, _, inner := rowsLevels()
	s.add("a root with a link", s.root.Page, raw(1, 2, rowsOf(1, 2)...))
	s.add("a root with a link, without rows", s.root.Page, raw(1, 2))
	s.add("numbers that do not rise", s.root.Page, raw(1, 0, rowsOf(2, 1)...))
	s.add("a root that leads to itself", s.root.Page, raw(2, inner, below(s.root.Page, 10)))
	s.add("a root that leads to itself", s.root.Page, raw(2, s.root.Page, below(inner-1, 10)))
	s.add("a circle", inner, raw(2, s.root.Page, below(inner-4, 20), below(inner-3, 30)))
	s.add("a circle", inner-1, raw(2, inner-5, below(s.root.Page, 4)))
	k, _, in := keysLevels()
	k.add("a root with a link", k.root.Page, raw(3, 2, shorts(ints(1, 2)...)...))
	k.add("a root with a link, without keys", k.root.Page, raw(3, 2))
	k.add("keys that do not rise", k.root.Page, raw(3, 0, shorts(ints(2, 1)...)...))
	k.add("a root that leads to itself", k.root.Page, raw(4, in, under(k.root.Page, sized(12, 30))))
	k.add("a root that leads to itself", k.root.Page, raw(4, k.root.Page, under(in-1, sized(12, 30))))
	k.add("a circle", in, raw(4, k.root.Page, under(in-4, sized(12, 50)), under(in-3, sized(12, 70))))
	return append(s.all, k.all...)
}

// TestP14Spoilt: trees that are none are ErrBad of Rows or Keys, and no database with them is whole; the words say the same.
func TestP14Spoilt(t *testing.T) {
	for _, d := range slices.Concat(spoiltRows(), spoiltKeys(), spoiltFar(), spoiltShared(), spoiltChains(), spoiltRoots()) {
		if _, _, e := treeBy(d.pages, d.root); e != api.ErrBad {
			t.Errorf("%s: the test's own tree is none that is wrong", d.what)
		}
		noTree(t, d.what, d.pages, d.root, api.ErrBad)
		whole(t, d.what, d.pages, d.whole, api.ErrBad)
		if e, _ := wholeBy(d.pages, d.whole); e != api.ErrBad {
			t.Errorf("%s: by the words it is %v", d.what, e)
		}
		if t.Failed() {
			t.Fatalf("%s: the root %d", d.what, d.root.Page)
		}
	}
}

// TestP14Deep: very many pages that lead down one below the other are no tree, and the call ends, without a stack as deep as they go.
func TestP14Deep(t *testing.T) {
	defer debug.SetMaxStack(debug.SetMaxStack(1 << 22))
	for _, kind := range []byte{2, 4} {
		const count = 1 << 17
		pages := make([]api.Page, count)
		for i := range pages {
			cell := below(i+2, most)
			if kind == 4 {
				cell = under(i+2, key([]byte("z")))
			}
			pages[i] = raw(kind, i+2, cell)
		}
		pages[0] = firstPage(0)
		r := api.Root{Page: 2, Keys: kind == 4}
		noTree(t, "deep", pages, r, api.ErrBad)
		whole(t, "deep", pages, []api.Root{r}, api.ErrBad)
	}
}
