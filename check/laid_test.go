package check_test

import (
	"math/rand"
	"slices"
	"testing"

	"bureau/api"
)

// laid is a database that was laid by hand, and what it holds.
type laid struct {
	what   string
	pages  []api.Page
	forest []api.Root
	rows   map[int][]api.RowAt   // by their trees' roots
	keys   map[int][][]api.Value // likewise
	free   []int
}

// layer lays a database by hand.
type layer struct {
	laid
	left []int // numbers of pages that were not given out yet, in the order in which they are
}

// newLayer lays into so many pages, given out as they rise.
func newLayer(what string, count int) *layer {
	return &layer{laid{what: what, pages: make([]api.Page, count), rows: map[int][]api.RowAt{}, keys: map[int][][]api.Value{}}, upTo(2, count)}
}

func (l *layer) take(count int) []int {
	taken := slices.Clone(l.left[:count])
	l.left = l.left[count:]
	return taken
}

// put lays a page somewhere.
func (l *layer) put(p api.Page) int {
	n := l.take(1)[0]
	l.pages[n-1] = p
	return n
}

// stub lays a payload's chain.
func (l *layer) stub(payload string) string {
	numbers := l.take(pagesFor(len(payload)))
	for i, p := range chainOf(payload, numbers...) {
		l.pages[numbers[i]-1] = p
	}
	return stubOf(payload, append(numbers, 0)[0])
}

// rowsLeaf lays a leaf of rows, rowsInner a page above some children.
func (l *layer) rowsLeaf(rows ...api.RowAt) int {
	var cells []string
	for _, r := range rows {
		cells = append(cells, number(r.Key)+l.stub(r.Data))
	}
	return l.put(raw(1, 0, cells...))
}

func (l *layer) rowsInner(children []int, between ...int64) int {
	var cells []string
	for i, n := range between {
		cells = append(cells, below(children[i], n))
	}
	return l.put(raw(2, children[len(between)], cells...))
}

// keysLeaf and keysInner lay pages of a tree of keys.
func (l *layer) keysLeaf(rows ...[]api.Value) int {
	var cells []string
	for _, k := range rows {
		cells = append(cells, l.stub(recordOf(k)))
	}
	return l.put(raw(3, 0, cells...))
}

func (l *layer) keysInner(children []int, between ...[]api.Value) int {
	var cells []string
	for i, k := range between {
		cells = append(cells, fourBytes(children[i])+l.stub(recordOf(k)))
	}
	return l.put(raw(4, children[len(between)], cells...))
}

// ofRows and ofKeys say that there is a tree now.
func (l *layer) ofRows(root int, rows ...api.RowAt) {
	l.forest = append(l.forest, api.Root{Page: root})
	l.rows[root] = rows
}

func (l *layer) ofKeys(root int, order []api.Order, rows ...[]api.Value) {
	l.forest = append(l.forest, api.Root{Page: root, Keys: true, Order: order})
	l.keys[root] = rows
}

// done makes all pages free that were not given out, in their order.
func (l *layer) done() laid {
	l.free = l.left
	link := 0
	for _, n := range slices.Backward(l.free) {
		l.pages[n-1] = raw(0, link)
		link = n
	}
	l.pages[0] = firstPage(link)
	return l.laid
}

// numbered is rows with data of so many bytes.
func numbered(size int, numbers ...int64) []api.RowAt {
	var rows []api.RowAt
	for i, n := range numbers {
		rows = append(rows, api.RowAt{Key: n, Data: dataOf(size, i)})
	}
	return rows
}

// threeOfRows lays a tree with inner pages below its root: from the left the leaves are those of children 0 to 4.
func (l *layer) threeOfRows(size int) (root int, leaves []int) {
	rows := numbered(size, least, 0, 5, 10, 11, 20, 21, 30, 31, most)
	for i := 0; i < len(rows); i += 2 {
		leaves = append(leaves, l.rowsLeaf(rows[i:i+2]...))
	}
	left := l.rowsInner(leaves[:2], 4)
	root = l.rowsInner([]int{left, l.rowsInner(leaves[2:], 20, 30)}, 10)
	l.ofRows(root, rows...)
	return root, leaves
}

// threeOfKeys lays a likewise tree of keys; all its records have so many bytes.
func (l *layer) threeOfKeys(size int, order []api.Order) (root int, leaves []int) {
	k := func(n int) []api.Value { return sized(size, n) }
	var rows [][]api.Value
	for n := range 10 {
		rows = append(rows, k(10*n))
	}
	if len(order) > 0 && order[0].Desc {
		slices.Reverse(rows)
	}
	for i := 0; i < len(rows); i += 2 {
		leaves = append(leaves, l.keysLeaf(rows[i:i+2]...))
	}
	left := l.keysInner(leaves[:2], rows[1])
	root = l.keysInner([]int{left, l.keysInner(leaves[2:], rows[5], rows[7])}, rows[3])
	l.ofKeys(root, order, rows...)
	return root, leaves
}

// falling is a tree whose keys are held against each other by several orders; keys above leaves are the same as those of leaves, though their bytes are not.
func (l *layer) falling() {
	order := []api.Order{{Coll: api.CollRTrim, Desc: true}, {Coll: api.CollNoCase}}
	rows := [][]api.Value{key(), key("b"), key("a  ", "X"), key("a ", "y"), key(7), key(nil)}
	l.ofKeys(l.keysInner([]int{l.keysLeaf(rows[:3]...), l.keysLeaf(rows[3:]...)}, key("a", "x")), order, rows...)
}

// allLaid is databases of each form that the chapters have.
func allLaid() []laid {
	all := []laid{newLayer("the first page alone", 1).done(), newLayer("a free page", 2).done(), newLayer("free pages", 9).done()}
	all = append(all, anyFree()...)
	add := func(what string, count int, lays func(l *layer)) {
		l := newLayer(what, count)
		lays(l)
		all = append(all, l.done())
	}
	add("a tree without rows", 2, func(l *layer) { l.ofRows(l.rowsLeaf()) })
	add("a tree without keys", 2, func(l *layer) { l.ofKeys(l.keysLeaf(), nil) })
	add("a tree of a row", 3, func(l *layer) { l.ofRows(l.rowsLeaf(numbered(3, -7)...), numbered(3, -7)...) })
	add("a tree of a key", 3, func(l *layer) { l.ofKeys(l.keysLeaf(key("one")), nil, key("one")) })
	add("a key without values", 3, func(l *layer) { l.ofKeys(l.keysLeaf(key()), nil, key()) })
	for _, size := range []int{39, 40, 41, 100, 280, 281, 520, 521, 1000, api.MaxRecord} {
		add("a leaf with chains", 4+2*pagesFor(size), func(l *layer) {
			rows := numbered(size, 3, 4)
			l.ofRows(l.rowsLeaf(rows...), rows...)
		})
		add("three levels of rows", 10+10*pagesFor(size), func(l *layer) { l.threeOfRows(size) })
		add("three levels of keys", 10+14*pagesFor(size), func(l *layer) { l.threeOfKeys(size, []api.Order{{Coll: api.Coll(size % 3)}}) })
		add("three levels of falling keys", 10+14*pagesFor(size), func(l *layer) {
			l.threeOfKeys(size, []api.Order{{Desc: true}, {Desc: true}, {Desc: true}, {Desc: true}, {Desc: true}, {Desc: true}, {Desc: true}, {Desc: true}, {Desc: true}, {Desc: true}, {Desc: true}})
		})
	}
	add("several orders", 5, func(l *layer) { l.falling() })
	return append(all, forests()...)
}

// anyFree is free pages in any order.
func anyFree() []laid {
	var all []laid
	for seed := range 12 {
		l := newLayer("free pages in any order", 2+seed)
		rand.New(rand.NewSource(int64(seed))).Shuffle(len(l.left), func(i, j int) { l.left[i], l.left[j] = l.left[j], l.left[i] })
		all = append(all, l.done())
	}
	return all
}

// forests is trees of both kinds beside one another, with chains in all pages and with free pages, laid in any order.
func forests() []laid {
	var all []laid
	for seed := range 8 {
		l := newLayer("a forest", 150)
		rand.New(rand.NewSource(int64(seed))).Shuffle(len(l.left), func(i, j int) { l.left[i], l.left[j] = l.left[j], l.left[i] })
		l.threeOfRows([]int{0, 200, 41, 500}[seed%4])
		l.ofKeys(l.keysLeaf(), nil)
		l.threeOfKeys([]int{300, 20, 40, 41}[seed%4], nil)
		l.ofRows(l.rowsLeaf())
		l.falling()
		l.threeOfKeys(30, nil)
		l.threeOfRows(7)
		all = append(all, l.done())
	}
	return all
}

// small is databases of few pages, for tests that change them in many ways.
func small() []laid {
	l := newLayer("small, of all", 34)
	l.left = slices.Concat(l.left[20:], l.left[:20])
	l.threeOfRows(2)
	l.threeOfKeys(12, nil)
	one := []api.RowAt{{Key: 1, Data: dataOf(300, 1)}, {Key: 2, Data: "two"}}
	l.ofRows(l.rowsLeaf(one...), one...)
	two := [][]api.Value{key(1), sized(290, 7)}
	l.ofKeys(l.keysInner([]int{l.keysLeaf(two[0]), l.keysLeaf(two[1])}, sized(50, 1)), nil, two...)
	l.falling()
	return []laid{l.done(), newLayer("small, free", 4).done()}
}

// TestP14TestsOwn: the databases of these tests are as the chapters have them.
func TestP14TestsOwn(t *testing.T) {
	for _, d := range append(allLaid(), small()...) {
		if e, wrong := wholeBy(d.pages, d.forest); e != api.OK {
			t.Errorf("%s: %v, %s", d.what, e, wrong)
		}
		if free, _ := freeBy(d.pages); !slices.Equal(free, d.free) {
			t.Errorf("%s: free: %v, not %v", d.what, free, d.free)
		}
		for _, r := range d.forest {
			rows, keys, _ := treeBy(d.pages, r)
			if !slices.Equal(rows, d.rows[r.Page]) || !same(keys, d.keys[r.Page]) {
				t.Errorf("%s: the tree %d has others", d.what, r.Page)
			}
		}
	}
}
