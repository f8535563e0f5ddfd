package tree

import (
	"iter"
	"maps"
	"slices"

	"bureau/api"
)

// whole is a tree of which all pages were met.
type whole struct {
	nodes  map[int]node     // by their numbers
	chains map[int]struct{} // the numbers of its rows' chains
}

// whole goes over all pages of a tree, each of which it must meet just once.
func (p pages) whole(root int) whole {
	w := whole{map[int]node{}, map[int]struct{}{}}
	meet := func(n int, within span) node {
		x := p.read(n, within)
		w.nodes[n] = x
		return x
	}
	for leaf := range leaves(meet, root) {
		for _, row := range leaf.cells {
			w.meetChain(p.chain(row.stub))
		}
	}
	return w
}

// meetChain notes the pages of a chain, none of which may be another row's.
func (w whole) meetChain(numbers []int) {
	for _, n := range numbers {
		_, met := w.chains[n]
		must(!met)
		w.chains[n] = struct{}{}
	}
}

// numbers is those of all pages, rising.
func (w whole) numbers() []int {
	numbers := slices.AppendSeq(slices.Collect(maps.Keys(w.nodes)), maps.Keys(w.chains))
	slices.Sort(numbers)
	return numbers
}

// kept is a tree as it was once, whatever became of its pages.
type kept struct {
	root  int
	nodes map[int]node
	rows  map[int][]api.RowAt // by their leaves
}

// keep reads the whole tree, with its rows' data.
func (p pages) keep(root int) kept {
	k := kept{root, p.whole(root).nodes, map[int][]api.RowAt{}}
	for leaf := range leaves(k.node, root) {
		for _, c := range leaf.cells {
			k.rows[leaf.n] = append(k.rows[leaf.n], p.rowOf(c))
		}
	}
	return k
}

// node is the source of a tree that is kept, whose pages were looked at already.
func (k kept) node(n int, _ span) node { return k.nodes[n] }

// all goes over the rows.
func (k kept) all() iter.Seq[api.RowAt] {
	return func(yield func(api.RowAt) bool) {
		for leaf := range leaves(k.node, k.root) {
			for _, row := range k.rows[leaf.n] {
				if !yield(row) {
					return
				}
			}
		}
	}
}
