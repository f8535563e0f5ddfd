package page

import "bureau/api"

// Insert is the page with a cell more, at a place; those from there on stand behind it.
func Insert(p api.Page, i int, cell string) (api.Page, api.Errno) {
	if e := Check(p); e != api.OK {
		return api.Page{}, e
	}
	if e := checkCells(cell); e != api.OK {
		return api.Page{}, e
	}
	n := Count(p)
	if e := checkPlace(p, i, n); e != api.OK {
		return api.Page{}, e
	}
	return joined(Kind(p), linkOf(p), part(p, 0, i), single(cell), part(p, i, n))
}

// Delete is the page without the cell at a place.
func Delete(p api.Page, i int) (api.Page, api.Errno) {
	n := Count(p)
	if e := checkPlace(p, i, n-1); e != api.OK {
		return api.Page{}, e
	}
	return joined(Kind(p), linkOf(p), part(p, 0, i), part(p, i+1, n))
}

// SetLink is the page with another link.
func SetLink(p api.Page, link uint32) (api.Page, api.Errno) {
	if e := Check(p); e != api.OK {
		return api.Page{}, e
	}
	return linked(p, link), api.OK
}

// Cut is two pages: the first n cells, without a link, and the others.
func Cut(p api.Page, n int) (api.Page, api.Page, api.Errno) {
	count := Count(p)
	if e := checkPlace(p, n, count); e != api.OK {
		return api.Page{}, api.Page{}, e
	}
	// Fewer cells than a page had do not lack room.
	first, _ := joined(Kind(p), 0, part(p, 0, n))
	others, _ := joined(Kind(p), linkOf(p), part(p, n, count))
	return first, others, api.OK
}

// Join is one page of two of a kind: p's cells and q's behind them, with q's link.
func Join(p, q api.Page) (api.Page, api.Errno) {
	if Check(p) != api.OK || Check(q) != api.OK {
		return api.Page{}, api.ErrBad
	}
	if Kind(p) != Kind(q) {
		return api.Page{}, api.ErrArg
	}
	return joined(Kind(p), linkOf(q), part(p, 0, Count(p)), part(q, 0, Count(q)))
}
