package tree

import (
	"cmp"
	"math"
	"slices"

	"bureau/api"
	"bureau/page"
)

const (
	keySize  = 8 // bytes of a number in a cell
	linkSize = 4 // bytes of a child's number
)

// span is the numbers that may stand below a page: from low to high, both among them.
type span struct{ low, high int64 }

// everything is the span of a root, and of no other page: below another one some numbers cannot stand.
func everything() span { return span{math.MinInt64, math.MaxInt64} }

// cell is a row, or what an inner page says of a child.
type cell struct {
	key   int64
	child int    // of an inner page
	stub  string // of a leaf: that of the row's data
}

// node is a page of a tree, a leaf or an inner page.
type node struct {
	n      int
	inner  bool
	cells  []cell
	last   int  // an inner page's last child
	within span // as the pages above have it
	room   int  // what the page had when it was read
}

// read is the page n, if it is one of a tree's and of those numbers that may stand there. As the spans of children lie apart, and within that of their page, a page that is met twice stands outside one of them: no way goes in a circle.
func (p pages) read(n int, within span) node {
	bytes, e := p.tx.Page(n)
	kind := page.Kind(bytes)
	must(e == api.OK && (kind == api.PageRows || kind == api.PageRowsIn))
	x := node{n: n, inner: kind == api.PageRowsIn, last: int(page.Link(bytes)), within: within, room: page.Room(bytes)}
	for _, text := range page.Cells(bytes) {
		x.cells = append(x.cells, x.cellOf(text))
	}
	must(x.inOrder())
	return x
}

// cellOf takes a cell's bytes apart.
func (x node) cellOf(text string) cell {
	must(len(text) > keySize)
	c, rest := cell{key: int64(numberOf(text[:keySize]) - 1<<63)}, text[keySize:]
	if x.inner {
		must(len(rest) == linkSize)
		c.child = int(numberOf(rest))
	} else {
		must(isStub(rest))
		c.stub = rest
	}
	return c
}

// inOrder tells whether the page is as full as one in its place must be, and its numbers rise within its span. Above an inner page's last number one more must be left, as there are rows below its last child.
func (x node) inOrder() bool {
	switch n := len(x.cells); {
	case !x.inner && x.last != 0:
		return false
	case n == 0:
		return !x.inner && x.within == everything()
	case x.cells[0].key < x.within.low || x.cells[n-1].key > x.within.high:
		return false
	case x.inner && x.cells[n-1].key == x.within.high:
		return false
	}
	for i, c := range x.cells[1:] {
		if c.key <= x.cells[i].key {
			return false
		}
	}
	return true
}

// find is the place of the first cell with a number of key or above; behind the cells if there is none.
func (x node) find(key int64) int {
	place, _ := slices.BinarySearchFunc(x.cells, key, func(c cell, key int64) int { return cmp.Compare(c.key, key) })
	return place
}

// below is the child at a place, the last one behind the cells, and its span.
func (x node) below(place int) (int, span) {
	n, within := x.last, x.within
	if place > 0 {
		within.low = x.cells[place-1].key + 1
	}
	if place < len(x.cells) {
		n, within.high = x.cells[place].child, x.cells[place].key
	}
	return n, within
}

// page is the bytes of the page; api.ErrFull if the cells have no room.
func (x node) page() (api.Page, api.Errno) {
	kind := api.PageRows
	if x.inner {
		kind = api.PageRowsIn
	}
	var texts []string
	for _, c := range x.cells {
		texts = append(texts, x.textOf(c))
	}
	return page.New(kind, uint32(x.last), texts...)
}

// textOf is a cell's bytes.
func (x node) textOf(c cell) string {
	key := bytesOf(uint64(c.key)+1<<63, keySize)
	if x.inner {
		return key + bytesOf(uint64(c.child), linkSize)
	}
	return key + c.stub
}

// numberOf is a number of which the highest byte comes first.
func numberOf(text string) uint64 {
	var u uint64
	for i := range len(text) {
		u = u<<8 | uint64(text[i])
	}
	return u
}

// bytesOf is a number in so many bytes, the highest one first.
func bytesOf(u uint64, size int) string {
	b := make([]byte, size)
	for i := size - 1; i >= 0; i-- {
		b[i] = byte(u)
		u >>= 8
	}
	return string(b)
}
