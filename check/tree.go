package check

// cell is what a cell of a tree says.
type cell[K any] struct {
	key   K
	data  string // of a row
	child int    // of an inner page: what is below it is not above the key
}

// form is how trees of one kind are laid.
type form[K any] struct {
	as   use
	read func(text string, inner bool) cell[K]
	cmp  func(a, b K) int // -1, 0, 1: a key stands ahead of another one, is the same, stands behind
}

// How a key stands at least to the one that is met ahead of it: one between two children may be the last one below the first of them, too.
const (
	same   = 0
	behind = 1
)

// tree meets all pages of the tree at a root, and is its leaves' cells. As no leaf below a root is empty, keys stand as they should below all children if each does so to the one that is met ahead of it.
func tree[K any](d database, root int, f form[K]) []cell[K] {
	var leaves []cell[K]
	var last *K // the key that was met last, of a leaf or between two children
	rises := func(key K, least int) {
		must(last == nil || f.cmp(key, *last) >= least)
		last = &key
	}
	depth := -1 // how far the leaves are from the root: not known till one was met
	var below func(n, far int)
	below = func(n, far int) {
		must(1<<far <= len(d.pages)) // inner pages have two children or more: leaves that are farther are too many
		x := d.meet(n, f.as)
		cells := f.cells(x)
		if x.isInner() {
			must(len(cells) > 0)
			for _, c := range cells {
				below(c.child, far+1)
				rises(c.key, same)
			}
			below(x.link, far+1)
			return
		}
		must(x.link == 0 && (len(cells) > 0 || far == 0) && (depth < 0 || depth == far))
		depth = far
		for _, c := range cells {
			rises(c.key, behind)
		}
		leaves = append(leaves, cells...)
	}
	below(root, 0)
	return leaves
}

// cells takes a page's cells apart, and meets their chains.
func (f form[K]) cells(x content) []cell[K] {
	var cells []cell[K]
	for _, text := range x.cells {
		cells = append(cells, f.read(text, x.isInner()))
	}
	return cells
}
