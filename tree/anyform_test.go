package tree_test

import (
	"math/rand"
	"slices"
	"testing"

	"bureau/api"
	"bureau/tree"
)

// layer lays a tree by hand, in any of the forms that the chapter has: leaves of any rows, inner pages of any cells, whose numbers stand anywhere between the rows.
type layer struct {
	r     *rand.Rand
	pages []api.Page
	left  []int // numbers of pages that were not given out yet, in any order
}

// branch is a page, and the least and the greatest row below it.
type branch struct {
	n           int
	first, last int64
}

func newLayer(r *rand.Rand, count int) *layer {
	l := &layer{r: r, pages: database(count)}
	for _, i := range r.Perm(count - 1) {
		l.left = append(l.left, i+2)
	}
	return l
}

func (l *layer) take(count int) []int {
	taken := l.left[:count]
	l.left = l.left[count:]
	return taken
}

// leaves lays rows into leaves, some of which are nearly empty.
func (l *layer) leaves(rows []api.RowAt) []branch {
	var made []branch
	for at := 0; at < len(rows); {
		n, from, most := l.take(1)[0], at, 1+l.r.Intn(25)
		var texts []string
		for room := 250; at < len(rows) && at-from < most && room >= 55; at++ {
			data := rows[at].Data
			texts = append(texts, eightBytes(rows[at].Key)+lay(l.pages, data, l.take(pagesFor(len(data)))...))
			room -= len(texts[len(texts)-1]) + 1
		}
		l.pages[n-1] = leaf(texts...)
		made = append(made, branch{n, rows[from].Key, rows[at-1].Key})
	}
	return made
}

// between is a number that may part two pages.
func (l *layer) between(left, right branch) int64 {
	switch l.r.Intn(3) {
	case 0:
		return left.last
	case 1:
		return right.first - 1
	}
	return left.last + l.r.Int63n(right.first-left.last)
}

// above lays inner pages above others, each with two children or more.
func (l *layer) above(below []branch) []branch {
	var made []branch
	for len(below) > 0 {
		size := min(2+l.r.Intn(18), len(below))
		if len(below)-size == 1 {
			size++
		}
		var texts []string
		for i := range size - 1 {
			texts = append(texts, child(l.between(below[i], below[i+1]), uint32(below[i].n)))
		}
		n := l.take(1)[0]
		l.pages[n-1] = inner(uint32(below[size-1].n), texts...)
		made = append(made, branch{n, below[0].first, below[size-1].last})
		below = below[size:]
	}
	return made
}

// root lays a whole tree.
func (l *layer) root(rows []api.RowAt) int {
	level := l.leaves(rows)
	for len(level) > 1 {
		level = l.above(level)
	}
	return level[0].n
}

// anyRows is so many rows, whose numbers lie near each other.
func anyRows(r *rand.Rand, count int) map[int64]string {
	m := map[int64]string{}
	for len(m) < count {
		m[int64(r.Intn(3*count))] = anyData(r)
	}
	return m
}

func anyData(r *rand.Rand) string {
	length := r.Intn(42)
	if r.Intn(10) == 0 {
		length = r.Intn(700)
	}
	return dataOf(length, r.Intn(256))
}

// TestP123AnyForm: rows are put into trees of any form, and taken out of them, till there are none.
func TestP123AnyForm(t *testing.T) {
	r := rand.New(rand.NewSource(123))
	for range 40 {
		m := anyRows(r, 1+r.Intn(160))
		l := newLayer(r, 400)
		root := l.root(sorted(m))
		tx := having(t, l.pages...)
		tells(t, tx, root, sorted(m)...)
		for step := range 90 {
			key := int64(r.Intn(500))
			_, had := m[key]
			if rows := sorted(m); !had && len(rows) > 0 && r.Intn(2) == 0 {
				key, had = rows[r.Intn(len(rows))].Key, true
			}
			if had && r.Intn(4) > 0 {
				deletes(t, tx, root, key)
				delete(m, key)
			} else {
				m[key] = anyData(r)
				puts(t, tx, root, key, m[key], !had)
			}
			own, chains := stands(t, seen(t, tx), root, sorted(m))
			if step%10 == 0 {
				shared(t, tx, own, chains, l.left)
			}
		}
		for _, row := range sorted(m) {
			deletes(t, tx, root, row.Key)
		}
		if l, e := tree.Pages(tx, root); e != api.OK || !slices.Equal(l, []int{root}) {
			t.Fatalf("no rows, Pages: %v %v", l, e)
		}
		shared(t, tx, []int{root}, l.left)
	}
}
