package keys

import (
	"maps"
	"slices"

	"bureau/api"
)

// step is a page on a way down, and the place of the child, or of the key, that comes next.
type step struct {
	node
	place int
}

// way is a way down, from the root to a leaf.
type way struct {
	pages
	steps []step
}

// turn tells by which place of a page a way goes on.
type turn func(x node) int

// atFirst goes by the first place of each page.
func atFirst(node) int { return 0 }

// wayTo is the way down to where a key is that is the same, or would be.
func (p pages) wayTo(root int, key []api.Value) *way {
	return p.wayBy(root, func(x node) int { return x.find(key, p.order) })
}

func (p pages) wayBy(root int, by turn) *way {
	w := &way{pages: p}
	w.down(root, span{}, by)
	return w
}

// down goes on by a page, down to the leaf.
func (w *way) down(n int, within span, by turn) {
	for {
		s := step{node: w.read(n, within)}
		s.place = by(s.node)
		w.steps = append(w.steps, s)
		if !s.inner {
			return
		}
		n, within = s.below(s.place)
	}
}

func (w *way) leaf() *step { return &w.steps[len(w.steps)-1] }

// leadsTo tells whether the way, which was found by that key, leads to one that is the same.
func (w *way) leadsTo(key []api.Value) bool {
	leaf := w.leaf()
	return leaf.place < len(leaf.cells) && w.order(leaf.cells[leaf.place].key, key) == 0
}

// next goes on to the first key of the next leaf, if there is one; it must be as far from the root.
func (w *way) next() bool {
	far := len(w.steps)
	for i := far - 2; i >= 0; i-- {
		if s := &w.steps[i]; s.place < len(s.cells) {
			s.place++
			n, within := s.below(s.place)
			w.steps = w.steps[:i+1]
			w.down(n, within, atFirst)
			must(len(w.steps) == far)
			return true
		}
	}
	return false
}

// keys is all keys from the way's place on; behind that it is at its end.
func (w *way) keys() [][]api.Value {
	var rows [][]api.Value
	for more := true; more; more = w.next() {
		for _, c := range w.leaf().cells[w.leaf().place:] {
			rows = append(rows, c.key)
		}
	}
	return rows
}

// all meets the whole tree, and is the numbers of its pages and of its cells' chains, rising.
func (p pages) all(root int) []int {
	w := p.wayBy(root, atFirst)
	for w.next() {
	}
	return slices.Sorted(maps.Keys(p.met))
}
