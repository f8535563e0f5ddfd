package tree

import (
	"slices"

	"bureau/api"
	"bureau/page"
	"bureau/space"
	"bureau/spill"
	"bureau/store"
)

// sparse is the room from which on a page that lost something is balanced with one beside it. It is more than either half of a page that was cut has, so that pages are not cut and joined in turn.
const sparse = 170

// pages is a transaction's pages, as a tree meets them.
type pages struct{ tx *store.Tx }

// put makes a page what a node says.
func (p pages) put(x node) {
	bytes, e := x.page()
	mustBe(e)
	mustBe(p.tx.Put(x.n, bytes))
}

// add takes a page for a node. It is laid at once: so free pages that go in a circle are told, as they lead to a page that is not free.
func (p pages) add(x node) int {
	n, e := space.Take(p.tx)
	mustBe(e)
	x.n = n
	p.put(x)
	return n
}

func (p pages) give(n int) { mustBe(space.Give(p.tx, n)) }

// giveAll gives back all of those pages but one, the highest first: so the lowest is taken first again.
func (p pages) giveAll(numbers []int, but int) {
	for _, n := range slices.Backward(numbers) {
		if n != but {
			p.give(n)
		}
	}
}

// dropRow takes the row out of its leaf to which a way leads, and gives back its chain.
func (p pages) dropRow(w *way) {
	leaf := w.leaf()
	mustBe(spill.Drop(p.tx, leaf.cells[leaf.place].stub))
	leaf.cells = slices.Delete(leaf.cells, leaf.place, leaf.place+1)
}

// settle puts the last page of a way that was changed, and what else must change by it: it is cut where its cells have no room, and balanced where it has got too small; that changes the page above, which is settled then.
func (p pages) settle(steps []step) {
	at, above := steps[len(steps)-1].node, steps[:len(steps)-1]
	bytes, e := at.page()
	isRoot := len(above) == 0
	switch {
	case isRoot && e != api.OK:
		p.deepen(at)
	case isRoot && at.inner && len(at.cells) == 0:
		p.flatten(at)
	case !isRoot && e != api.OK:
		p.cut(at, &above[len(above)-1])
		p.settle(above)
	case !isRoot && page.Room(bytes) > max(at.room, sparse):
		p.balance(at, &above[len(above)-1])
		p.settle(above)
	default:
		p.put(at)
	}
}

// deepen puts a root's cells, that have no room, into two pages below it.
func (p pages) deepen(root node) {
	left, key, right := root.halves()
	first := cell{key: key, child: p.add(left)}
	p.put(node{n: root.n, inner: true, cells: []cell{first}, last: p.add(right)})
}

// flatten puts what a root's only child has into the root.
func (p pages) flatten(root node) {
	child := p.read(root.below(0))
	n := child.n
	child.n = root.n
	p.put(child)
	p.give(n)
}

// cut takes a page more for the first half of one whose cells have no room; the page above leads to the other half already.
func (p pages) cut(x node, above *step) {
	left, key, right := x.halves()
	p.put(right)
	above.cells = slices.Insert(above.cells, above.place, cell{key: key, child: p.add(left)})
}

// balance makes one page of x and of the one beside it, or two halves where one has no room for all.
func (p pages) balance(x node, above *step) {
	place := min(above.place, len(above.cells)-1)
	left, right := x, x
	if place == above.place {
		right = p.read(above.below(place + 1))
	} else {
		left = p.read(above.below(place))
	}
	must(left.inner == right.inner)
	both := joined(left, above.cells[place].key, right)
	if _, e := both.page(); e == api.OK {
		p.put(both)
		p.give(left.n)
		above.cells = slices.Delete(above.cells, place, place+1)
		return
	}
	first, key, second := both.halves()
	first.n = left.n
	p.put(first)
	p.put(second)
	above.cells[place].key = key
}

// joined is the cells of two pages that stand side by side, in the place of the second one, to which the page above leads as long as the tree goes on behind them. The number between inner pages leads to the first one's last child then.
func joined(left node, key int64, right node) node {
	between := []cell{}
	if left.inner {
		between = append(between, cell{key: key, child: left.last})
	}
	right.cells = slices.Concat(left.cells, between, right.cells)
	return right
}

// halves cuts a page into two, about in the midst of its bytes: the second one in its place, the first one in none yet; and tells the number between them. Of an inner page the cell in the midst is left out, as its child is the first one's last.
func (x node) halves() (left node, key int64, right node) {
	at := x.middle()
	left, right = node{inner: x.inner}, x
	left.cells, right.cells = x.cells[:at], x.cells[at:]
	if !x.inner {
		return left, x.cells[at-1].key, right
	}
	left.last, right.cells = x.cells[at].child, x.cells[at+1:]
	return left, x.cells[at].key, right
}

// middle is the place of the cell in which half of the bytes are reached, or of the next one if it is reached behind that cell's middle.
func (x node) middle() int {
	total := 0
	for _, c := range x.cells {
		total += len(x.textOf(c))
	}
	at, ahead := 0, 0
	for {
		size := len(x.textOf(x.cells[at]))
		if 2*ahead+size >= total {
			return at
		}
		ahead += size
		at++
	}
}
