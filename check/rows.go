package check

import "cmp"

// keySize is the bytes of a row's number in a cell.
const keySize = 8

// rows meets a tree of rows, and is its rows.
func (d database) rows(root int) []cell[int64] {
	return tree(d, root, form[int64]{inRows, d.row, cmp.Compare[int64]})
}

// row takes a cell of a tree of rows apart.
func (d database) row(text string, inner bool) cell[int64] {
	must(len(text) >= keySize)
	c, rest := cell[int64]{key: int64(numberOf(text[:keySize]) - 1<<63)}, text[keySize:]
	if inner {
		must(len(rest) == linkSize)
		c.child = int(numberOf(rest))
	} else {
		c.data = d.payload(rest)
	}
	return c
}
