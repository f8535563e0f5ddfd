package check

import (
	"bureau/api"
	"bureau/record"
)

// keys meets a tree of keys that stand by those orders, and is its keys.
func (d database) keys(root int, order []api.Order) []cell[[]api.Value] {
	by := func(a, b []api.Value) int { return record.Cmp(a, b, order) }
	return tree(d, root, form[[]api.Value]{inKeys, d.key, by})
}

// key takes a cell of a tree of keys apart.
func (d database) key(text string, inner bool) cell[[]api.Value] {
	var c cell[[]api.Value]
	if inner {
		must(len(text) >= linkSize)
		c.child, text = int(numberOf(text[:linkSize])), text[linkSize:]
	}
	key, e := record.Decode(d.payload(text))
	must(e == api.OK)
	c.key = key
	return c
}
