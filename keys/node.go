package keys

import (
	"slices"

	"bureau/api"
	"bureau/page"
)

// linkSize is the bytes of a child's number in a cell.
const linkSize = 4

// cell is a key, with the stub of its record; of an inner page also the child below it, in which no key is behind this one.
type cell struct {
	child int
	stub  string
	key   []api.Value
}

// span is the keys that may stand below a page: behind that of low, and not behind that of high; where one of them is nil, there is no such end.
type span struct{ low, high *cell }

// isAll tells whether any key may stand there: so it is with a root, and with no other page.
func (s span) isAll() bool { return s.low == nil && s.high == nil }

// node is a page of a tree, a leaf or an inner page.
type node struct {
	n      int
	inner  bool
	cells  []cell
	last   int  // an inner page's last child
	within span // as the pages above have it
	room   int  // what the page had when it was read
}

// read is the page n, if it is one of a tree's that may stand there. It must not have been met yet in this call, nor a page of its cells' chains: so no way goes in a circle, and no page has two places.
func (p pages) read(n int, within span) node {
	bytes, e := p.tx.Page(n)
	kind := page.Kind(bytes)
	must(e == api.OK && (kind == api.PageKeys || kind == api.PageKeysIn))
	p.meet(n)
	x := node{n: n, inner: kind == api.PageKeysIn, last: int(page.Link(bytes)), within: within, room: page.Room(bytes)}
	for _, text := range page.Cells(bytes) {
		x.cells = append(x.cells, p.cellOf(text, x.inner))
	}
	must(x.isFilled() && x.rises(p.order))
	return x
}

// meet notes pages that were not met yet.
func (p pages) meet(numbers ...int) {
	for _, n := range numbers {
		_, met := p.met[n]
		must(!met)
		p.met[n] = struct{}{}
	}
}

// cellOf takes a cell's bytes apart, and goes along its chain.
func (p pages) cellOf(text string, inner bool) cell {
	c := cell{stub: text}
	if inner {
		must(len(text) > linkSize)
		c.child, c.stub = numberOf(text[:linkSize]), text[linkSize:]
	}
	c.key = p.keyOf(c.stub)
	p.meet(p.chain(c.stub)...)
	return c
}

// isFilled tells whether there are cells where there must be some, and whether a leaf leads nowhere.
func (x node) isFilled() bool {
	if x.inner {
		return len(x.cells) > 0
	}
	return x.last == 0 && (len(x.cells) > 0 || x.within.isAll())
}

// rises tells whether the keys rise within the page's span. Those of an inner page must leave room behind them, as there are keys below its last child.
func (x node) rises(order against) bool {
	low := x.within.low
	for i := range x.cells {
		if low != nil && order(low.key, x.cells[i].key) >= 0 {
			return false
		}
		low = &x.cells[i]
	}
	if x.within.high == nil || len(x.cells) == 0 {
		return true
	}
	stands := order(low.key, x.within.high.key)
	return stands < 0 || stands == 0 && !x.inner
}

// find is the place of the first cell whose key is not ahead of one; behind the cells if there is none.
func (x node) find(key []api.Value, order against) int {
	place, _ := slices.BinarySearchFunc(x.cells, key, func(c cell, key []api.Value) int { return order(c.key, key) })
	return place
}

// below is the child at a place, the last one behind the cells, and its span.
func (x node) below(place int) (int, span) {
	n, within := x.last, x.within
	if place > 0 {
		low := x.cells[place-1]
		within.low = &low
	}
	if place < len(x.cells) {
		high := x.cells[place]
		n, within.high = high.child, &high
	}
	return n, within
}

// page is the bytes of the page; api.ErrFull if the cells have no room.
func (x node) page() (api.Page, api.Errno) {
	kind := api.PageKeys
	if x.inner {
		kind = api.PageKeysIn
	}
	var texts []string
	for _, c := range x.cells {
		texts = append(texts, x.textOf(c))
	}
	return page.New(kind, uint32(x.last), texts...)
}

// textOf is a cell's bytes.
func (x node) textOf(c cell) string {
	if x.inner {
		return bytesOf(c.child) + c.stub
	}
	return c.stub
}

// numberOf is a child's number, of which the highest byte comes first.
func numberOf(text string) int {
	n := 0
	for i := range len(text) {
		n = n<<8 | int(text[i])
	}
	return n
}

// bytesOf is a child's number as bytes.
func bytesOf(n int) string {
	return string([]byte{byte(n >> 24), byte(n >> 16), byte(n >> 8), byte(n)})
}
