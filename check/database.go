package check

import (
	"bureau/api"
	"bureau/page"
)

// use is what a page is there for.
type use int

const (
	unused use = iota // nothing that was met leads to it
	asFirst
	asFree
	inRows  // of a tree of rows
	inKeys  // of a tree of keys
	inChain // of a payload
)

// takes tells whether a page of that kind may be there for it.
func (u use) takes(kind api.PageKind) bool {
	switch u {
	case asFirst, asFree:
		return kind == api.PageFree
	case inRows:
		return kind == api.PageRows || kind == api.PageRowsIn
	case inKeys:
		return kind == api.PageKeys || kind == api.PageKeysIn
	case inChain:
		return kind == api.PageSpill
	}
	return false
}

// database is a list of pages, and what those that were met are there for.
type database struct {
	pages []api.Page
	uses  map[int]use // by the pages' numbers
}

// content is what a page holds.
type content struct {
	kind  api.PageKind
	link  int
	cells []string
}

// isInner tells whether a page of a tree is an inner page.
func (x content) isInner() bool { return x.kind == api.PageRowsIn || x.kind == api.PageKeysIn }

// meet is what the page n holds, which must be there for one thing alone: so no way goes in a circle.
func (d database) meet(n int, as use) content {
	must(isOneOf(n, len(d.pages)) && d.uses[n] == unused)
	p := d.pages[n-1]
	must(page.Check(p) == api.OK && as.takes(page.Kind(p)))
	d.uses[n] = as
	x := content{kind: page.Kind(p), link: int(page.Link(p))}
	for _, cell := range page.Cells(p) {
		x.cells = append(x.cells, cell)
	}
	return x
}

// mustBeUsed gives up where a page is there for nothing.
func (d database) mustBeUsed() {
	for i := range d.pages {
		must(d.uses[i+1] != unused)
	}
}

// numberOf is a number of which the highest byte comes first.
func numberOf(text string) uint64 {
	var u uint64
	for i := range len(text) {
		u = u<<8 | uint64(text[i])
	}
	return u
}
