package page

import "bureau/api"

// Where a page's parts stand.
const (
	kindAt   = 0
	countAt  = 1
	linkAt   = 2
	linkSize = 4
	head     = linkAt + linkSize // where the cells' lengths begin
)

// run is cells that stand one behind the other: their lengths, a byte each, and their bytes. Every change of a page is runs that are joined, so that there is one place alone where a page's form is laid.
type run struct {
	lengths, bytes string
}

// single is the run of one cell.
func single(cell string) run {
	return run{string([]byte{byte(len(cell))}), cell}
}

// part is the run of the cells from one place on, up to another one, of a page that may be.
func part(p api.Page, from, to int) run {
	return run{
		lengths: string(p[head+from : head+to]),
		bytes:   string(p[start(p, from):start(p, to)]),
	}
}

// start is where the bytes of the cell at a place begin; behind the last place, where the cells end.
func start(p api.Page, i int) int {
	at := head + int(p[countAt])
	for _, length := range p[head : head+i] {
		at += int(length)
	}
	return at
}

// joined is the page that has the cells of all runs, if they have room.
func joined(kind api.PageKind, link uint32, runs ...run) (api.Page, api.Errno) {
	count, size := 0, head
	for _, r := range runs {
		count += len(r.lengths)
		size += len(r.lengths) + len(r.bytes)
	}
	if size > api.PageSize {
		return api.Page{}, api.ErrFull
	}
	var p api.Page
	p[kindAt], p[countAt] = byte(kind), byte(count)
	lengths, bytes := p[head:head+count], p[head+count:]
	for _, r := range runs {
		lengths = lengths[copy(lengths, r.lengths):]
		bytes = bytes[copy(bytes, r.bytes):]
	}
	return linked(p, link), api.OK
}

// linked is a page with another link.
func linked(p api.Page, link uint32) api.Page {
	for i := linkSize - 1; i >= 0; i-- {
		p[linkAt+i] = byte(link)
		link >>= 8
	}
	return p
}

// linkOf is a page's link, whether the page may be or not.
func linkOf(p api.Page) uint32 {
	link := uint32(0)
	for _, b := range p[linkAt:head] {
		link = link<<8 | uint32(b)
	}
	return link
}
