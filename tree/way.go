package tree

import (
	"iter"
	"math"

	"bureau/api"
)

// source is where a way finds its pages: in a transaction, or in what was kept of one.
type source func(n int, within span) node

// step is a page on a way down, and the place of the child, or of the row, that comes next.
type step struct {
	node
	place int
}

// way is a way down, from the root to a leaf.
type way struct {
	read  source
	steps []step
}

// wayTo is the way down to where a row with that number is, or would be.
func wayTo(read source, root int, key int64) *way {
	w := &way{read: read}
	w.down(root, everything(), key)
	return w
}

// down goes on by a page, down to the leaf.
func (w *way) down(n int, within span, key int64) {
	for {
		s := step{node: w.read(n, within)}
		s.place = s.find(key)
		w.steps = append(w.steps, s)
		if !s.inner {
			return
		}
		n, within = s.below(s.place)
	}
}

func (w *way) leaf() *step { return &w.steps[len(w.steps)-1] }

// atEnd tells whether the way leads behind the rows of its leaf.
func (w *way) atEnd() bool { return w.leaf().place == len(w.leaf().cells) }

// has tells whether the way leads to a row with that number.
func (w *way) has(key int64) bool { return !w.atEnd() && w.leaf().cells[w.leaf().place].key == key }

// row is the row with that number to which the way leads.
func (w *way) row(key int64) cell {
	if !w.has(key) {
		giveUp(api.ErrNone)
	}
	return w.leaf().cells[w.leaf().place]
}

// next goes on to the first row of the next leaf, if there is one; it must be as far from the root.
func (w *way) next() bool {
	far := len(w.steps)
	for i := far - 2; i >= 0; i-- {
		if s := &w.steps[i]; s.place < len(s.cells) {
			s.place++
			n, within := s.below(s.place)
			w.steps = w.steps[:i+1]
			w.down(n, within, within.low)
			must(len(w.steps) == far)
			return true
		}
	}
	return false
}

// leaves goes over all leaves, from the first one on; each time that it is gone over by a way of its own.
func leaves(read source, root int) iter.Seq[node] {
	return func(yield func(node) bool) {
		w := wayTo(read, root, math.MinInt64)
		for more := true; more; more = w.next() {
			if !yield(w.leaf().node) {
				return
			}
		}
	}
}
