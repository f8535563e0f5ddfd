package keys_test

import (
	"slices"
	"testing"

	"bureau/api"
	"bureau/page"
)

// byHand is a tree that was laid by hand.
type byHand struct {
	what  string
	pages []api.Page
	root  int
	order []api.Order
	rows  [][]api.Value
	own   []int // all its pages, with the chains
}

// layer lays pages of a tree by hand.
type layer struct {
	pages []api.Page
	left  []int // numbers of pages that were not given out yet
	own   []int // those that were
}

// newLayer lays into a database of so many pages, the last ones first.
func newLayer(count int) *layer {
	left := upTo(2, count)
	slices.Reverse(left)
	return &layer{pages: database(count), left: left}
}

func (l *layer) take(count int) []int {
	taken := l.left[:count]
	l.left = l.left[count:]
	l.own = append(l.own, taken...)
	return taken
}

// stub lays a key's chain.
func (l *layer) stub(k []api.Value) string {
	return lay(l.pages, recordOf(k), l.take(chainFor(k))...)
}

// leaf lays a leaf with those keys.
func (l *layer) leaf(rows ...[]api.Value) int {
	var cells []string
	for _, k := range rows {
		cells = append(cells, l.stub(k))
	}
	n := l.take(1)[0]
	l.pages[n-1] = leaf(cells...)
	return n
}

// inner lays an inner page: children, and one key less between them.
func (l *layer) inner(children []int, between ...[]api.Value) int {
	var cells []string
	for i, k := range between {
		cells = append(cells, fourBytes(uint32(children[i]))+l.stub(k))
	}
	n := l.take(1)[0]
	l.pages[n-1] = inner(uint32(children[len(between)]), cells...)
	return n
}

// tree is what was laid.
func (l *layer) tree(what string, root int, order []api.Order, rows ...[]api.Value) byHand {
	return byHand{what, l.pages, root, order, rows, slices.Sorted(slices.Values(l.own))}
}

// threeLevels is a tree with inner pages below its root; keys of cells are those of leaves, and others.
func threeLevels() byHand { return threeLevelsBy("three levels", nil, 1) }

// threeLevelsBy is that tree with all integers times a number.
func threeLevelsBy(what string, order []api.Order, times int) byHand {
	k := func(n int) []api.Value { return key(n * times) }
	at := func(numbers ...int) [][]api.Value {
		var rows [][]api.Value
		for _, n := range numbers {
			rows = append(rows, k(n))
		}
		return rows
	}
	pages := database(12, 9, 12)
	pages[6] = inner(3, child(8, k(10)))
	pages[7] = inner(2, child(11, k(5)))
	pages[2] = inner(10, child(4, k(20)), child(5, k(30)))
	pages[10] = leaf(shorts(at(-3, 1, 4)...)...)
	pages[1] = leaf(shorts(at(6, 10)...)...)
	pages[3] = leaf(shorts(at(15)...)...)
	pages[4] = leaf(shorts(at(21, 30)...)...)
	pages[9] = leaf(shorts(at(31, 99)...)...)
	return byHand{what, pages, 7, order, at(-3, 1, 4, 6, 10, 15, 21, 30, 31, 99), []int{2, 3, 4, 5, 7, 8, 10, 11}}
}

// withChains is a tree of three leaves with records of various lengths, also above the leaves.
func withChains() byHand {
	l := newLayer(30)
	rows := [][]api.Value{numbered(10, 41), numbered(20, 40), numbered(30, 700), numbered(40, 41), numbered(50, 281), numbered(60, 280)}
	children := []int{l.leaf(rows[:2]...), l.leaf(rows[2:4]...), l.leaf(rows[4:]...)}
	return l.tree("chains", l.inner(children, numbered(25, 600), rows[3]), nil, rows...)
}

// longKeys is a tree of three levels all of whose records, of leaves and above them, have so many bytes.
func longKeys(size int) byHand {
	l := newLayer(12 + 13*(1+pagesFor(size)))
	var rows [][]api.Value
	for n := range 8 {
		rows = append(rows, sized(size, 10*n))
	}
	var leaves []int
	for n := 0; n < 8; n += 2 {
		leaves = append(leaves, l.leaf(rows[n:n+2]...))
	}
	left, right := l.inner(leaves[:2], rows[1]), l.inner(leaves[2:], sized(size, 55))
	return l.tree("long keys", l.inner([]int{left, right}, sized(size, 39)), nil, rows...)
}

// collated is trees in whose inner pages stand keys that are the same as others, though their bytes are not.
func collated() []byHand {
	l, m := newLayer(6), newLayer(6)
	noCase, trim := []api.Order{{Coll: api.CollNoCase}}, []api.Order{{Coll: api.CollRTrim, Desc: true}, {Coll: api.CollNoCase}}
	one := l.inner([]int{l.leaf(key("A"), key("b")), l.leaf(key("C"), key("d")), l.leaf(key("E"))}, key("B"), key("D"))
	two := m.inner([]int{m.leaf(key(), key("b"), key("a  ", "X")), m.leaf(key("a ", "y"), key(7), key(nil))}, key("a", "x"))
	return []byHand{
		l.tree("no case", one, noCase, key("A"), key("b"), key("C"), key("d"), key("E")),
		m.tree("blanks at the end, falling", two, trim, key(), key("b"), key("a  ", "X"), key("a ", "y"), key(7), key(nil)),
	}
}

// fullLeaves is trees of a leaf that has no room left.
func fullLeaves() []byHand {
	var all []byHand
	add := func(what string, rows ...[]api.Value) {
		l := newLayer(12)
		all = append(all, l.tree(what, l.leaf(rows...), nil, rows...))
	}
	var long, chains [][]api.Value
	for n := 10; n < 15; n++ {
		long, chains = append(long, numbered(n, 40)), append(chains, numbered(n, 41))
	}
	add("a leaf of long keys", append(long, numbered(15, 38))...)
	add("a leaf of keys with chains", append(chains, ints(20, 21, 22, 23)...)...)
	add("a leaf of short keys", ints(upTo(2, 51)...)...)
	return all
}

// fullInners is trees of an inner page that has no room left.
func fullInners() []byHand {
	l, m := newLayer(35), newLayer(20)
	rows, leaves := [][]api.Value{key()}, []int{l.leaf(key())}
	for n := range 28 {
		rows = append(rows, ints(3*n, 3*n+1)...)
		leaves = append(leaves, l.leaf(ints(3*n, 3*n+1)...))
	}
	between := [][]api.Value{key()}
	for n := range 27 {
		between = append(between, key(3*n+2))
	}
	one := l.inner(leaves, between...)

	var others [][]api.Value
	leaves, between = nil, nil
	for n := 10; n < 16; n++ {
		others = append(others, key(n, "last"))
		leaves = append(leaves, m.leaf(key(n, "last")))
		between = append(between, numbered(n, 130))
	}
	between[4] = numbered(14, 40)
	two := m.inner(leaves, between[:5]...)
	return []byHand{
		l.tree("an inner page of short keys", one, nil, rows...),
		m.tree("an inner page of keys with chains", two, nil, others...),
	}
}

// fullPages is trees of a page that has no room left.
func fullPages() []byHand { return slices.Concat(fullLeaves(), fullInners()) }

// allByHand is trees of each form that the chapter has.
func allByHand() []byHand {
	one := func(what string, order []api.Order, rows ...[]api.Value) byHand {
		l := newLayer(20)
		return l.tree(what, l.leaf(rows...), order, rows...)
	}
	wide := make([]api.Value, api.MaxCols)
	return slices.Concat(fullPages(), collated(), []byHand{
		threeLevels(), threeLevelsBy("falling", []api.Order{{Desc: true}}, -1), threeLevelsBy("more orders than values", []api.Order{{}, {Desc: true}, {}}, 1),
		withChains(), longKeys(40), longKeys(41), longKeys(api.MaxRecord),
		one("no keys", nil), one("one key", nil, key("one")), one("a key without values", nil, key()), one("keys of MaxCols", nil, wide, append(wide[:15:15], key(1)...)),
		one("a long key", nil, sized(api.MaxRecord, 1)), one("of all kinds", nil, key(), key(nil), key(-1), key(0), key(1), key(2, nil), key(2, 1), key(""), key("a"), key([]byte{}), key([]byte{0})),
	})
}

// TestP13TestsOwnTrees: the trees of these tests are as the chapter has it, and of the forms that their names say.
func TestP13TestsOwnTrees(t *testing.T) {
	for _, h := range allByHand() {
		f, wrong := lookThrough(h.pages, h.root, by(h.order))
		if wrong != "" || !same(f.rows, h.rows) || !slices.Equal(slices.Sorted(slices.Values(slices.Concat(f.pages, f.chains))), h.own) {
			t.Errorf("%s: %s", h.what, wrong)
		}
	}
	for _, h := range fullPages() {
		p := h.pages[h.root-1]
		if page.Room(p) != 0 {
			t.Errorf("%s: there is room for %d bytes", h.what, page.Room(p))
		}
	}
	for _, size := range edges {
		if n := len(recordOf(sized(size, 7))); n != size {
			t.Errorf("a record of %d bytes, not %d", n, size)
		}
	}
	for size := 10; size <= api.MaxRecord; size++ {
		if n, m := len(recordOf(sized(size, 7))), len(recordOf(numbered(7, size))); n != size || m != size {
			t.Errorf("records of %d and %d bytes, not %d", n, m, size)
		}
	}
}
