package keys

import (
	"iter"
	"slices"

	"bureau/api"
	"bureau/page"
	"bureau/space"
	"bureau/store"
)

// sparse is the room from which on a page that lost something is joined with one beside it, if it can be. It is more than the room of either half of a leaf that was cut, so that leaves are not cut and joined in turn.
const sparse = 170

// pages is a transaction's pages, as one call meets them.
type pages struct {
	tx    *store.Tx
	order against
	met   map[int]struct{} // the numbers of those that were read, and of the chains of their cells
}

// put makes a page what a node says.
func (p pages) put(x node) {
	bytes, e := x.page()
	mustBe(e)
	mustBe(p.tx.Put(x.n, bytes))
}

// add takes a page for a node. It is laid at once: so free pages that go in a circle are told, as they lead to a page that is not free.
func (p pages) add(x node) int {
	n, e := space.Take(p.tx)
	mustBe(e)
	x.n = n
	p.put(x)
	return n
}

func (p pages) give(n int) { mustBe(space.Give(p.tx, n)) }

// giveAll gives back all of those pages but one, the highest first: so the lowest is taken first again.
func (p pages) giveAll(numbers []int, but int) {
	for _, n := range slices.Backward(numbers) {
		if n != but {
			p.give(n)
		}
	}
}

// settle puts the last page of a way that was changed, and what else must change by it: it is cut where its cells have no room, and balanced where it has got too small; that changes the page above, which is settled then.
func (p pages) settle(steps []step) {
	at, above := steps[len(steps)-1].node, steps[:len(steps)-1]
	bytes, e := at.page()
	isRoot := len(above) == 0
	switch {
	case isRoot && e != api.OK:
		p.deepen(at)
	case isRoot && at.inner && len(at.cells) == 0:
		p.flatten(at)
	case !isRoot && e != api.OK:
		p.cut(at, &above[len(above)-1])
		p.settle(above)
	case !isRoot && page.Room(bytes) > max(at.room, sparse):
		if p.balance(at, &above[len(above)-1]) {
			p.settle(above)
		}
	default:
		p.put(at)
	}
}

// deepen puts a root's cells, that have no room, into two pages below it.
func (p pages) deepen(root node) {
	first, rest := p.parted(root)
	p.put(node{n: root.n, inner: true, cells: []cell{first}, last: p.add(rest)})
}

// flatten puts what a root's only child has, which was put just now, into the root.
func (p pages) flatten(root node) {
	bytes, e := p.tx.Page(root.last)
	mustBe(e)
	mustBe(p.tx.Put(root.n, bytes))
	p.give(root.last)
}

// cut takes a page more for the first half of one whose cells have no room; the page above leads to the other half already.
func (p pages) cut(x node, above *step) {
	first, rest := p.parted(x)
	p.put(rest)
	above.cells = slices.Insert(above.cells, above.place, first)
}

// parted lays the first half of a page's cells into a page of its own, and tells the cell that leads to it, and the other half, which is not put yet. The key above a leaf has a chain of its own, as the leaf keeps its key.
func (p pages) parted(x node) (cell, node) {
	left, between, right := x.halves()
	if !x.inner {
		between.stub = p.stubOf(between.key)
	}
	between.child = p.add(left)
	return between, right
}

// pair is two pages side by side, and the place of the cell above that stands between them.
type pair struct {
	left, right node
	place       int
}

// pairs goes over the pairs that a page makes with the one behind it and with the one ahead of it, as far as there are any.
func (p pages) pairs(x node, above *step) iter.Seq[pair] {
	return func(yield func(pair) bool) {
		at := above.place
		if at < len(above.cells) && !yield(pair{x, p.beside(x, above, at+1), at}) {
			return
		}
		if at > 0 {
			yield(pair{p.beside(x, above, at-1), x, at - 1})
		}
	}
}

// beside is the child at another place of the page above, which must be of x's kind.
func (p pages) beside(x node, above *step, place int) node {
	other := p.read(above.below(place))
	must(other.inner == x.inner)
	return other
}

// balance makes one page of x, which has got small, and of one beside it, if there is room for both, and tells whether the page above is another one by that. Where there is none x stays small, unless it is an inner page without cells, that must not be: it shares then with the one beside it. Leaves never share, as that takes a chain for a new key above them, and Delete should not lack room for it.
func (p pages) balance(x node, above *step) bool {
	var last pair
	for last = range p.pairs(x, above) {
		if p.join(last, above) {
			return true
		}
	}
	if len(x.cells) > 0 {
		p.put(x)
		return false
	}
	p.share(last, above)
	return true
}

// join makes one page of two, if it has room for their cells. The key between leaves goes, with its chain; that between inner pages goes down.
func (p pages) join(both pair, above *step) bool {
	between := above.cells[both.place]
	one := both.joined(between)
	bytes, e := one.page()
	if e != api.OK {
		return false
	}
	mustBe(p.tx.Put(one.n, bytes))
	p.give(both.left.n)
	if !one.inner {
		p.dropChain(between)
	}
	above.cells = slices.Delete(above.cells, both.place, both.place+1)
	return true
}

// share puts the cells of two inner pages, for which one has no room, half into the one, half into the other. Keys move with their chains.
func (p pages) share(both pair, above *step) {
	first, between, second := both.joined(above.cells[both.place]).halves()
	first.n = both.left.n
	between.child = first.n
	p.put(first)
	p.put(second)
	above.cells[both.place] = between
}

// joined is the cells of both pages, in the place of the second one, to which the page above leads as long as the tree goes on behind them. The key between inner pages leads to the first one's last child then.
func (both pair) joined(between cell) node {
	one := both.right
	one.cells = slices.Clone(both.left.cells)
	if one.inner {
		between.child = both.left.last
		one.cells = append(one.cells, between)
	}
	one.cells = append(one.cells, both.right.cells...)
	return one
}

// halves cuts a page into two, about in the midst of its bytes: the second one in its place, the first one in none yet; and the cell between them. Of a leaf that is the first half's last one; of an inner page it belongs to neither, as its child is the first half's last.
func (x node) halves() (left node, between cell, right node) {
	at := x.middle()
	left, right = node{inner: x.inner, cells: x.cells[:at]}, x
	if !x.inner {
		right.cells = x.cells[at:]
		return left, x.cells[at-1], right
	}
	left.last, right.cells = x.cells[at].child, x.cells[at+1:]
	return left, x.cells[at], right
}

// middle is the place of the cell in which half of the bytes are reached, or of the next one if it is reached behind that cell's middle. As cells that have no room in one page are at least five, none of the halves is empty.
func (x node) middle() int {
	total := 0
	for _, c := range x.cells {
		total += x.size(c)
	}
	at, ahead := 0, 0
	for {
		size := x.size(x.cells[at])
		if 2*ahead+size >= total {
			return at
		}
		ahead += size
		at++
	}
}

// size is the bytes that a cell takes in a page, with that of its length.
func (x node) size(c cell) int { return len(x.textOf(c)) + 1 }
