package spill

import (
	"iter"
	"slices"
	"strings"

	"bureau/api"
	"bureau/page"
	"bureau/store"
)

const (
	pageBytes = 240 // bytes of a payload in each page of its chain but the last one
	firstPage = 1   // the page of a database that is never given out
)

// kept is what is found of a payload.
type kept struct {
	payload string
	size    int   // bytes of its stub
	pages   []int // of its chain
}

// find reads the stub with which a text begins, and goes along its chain. How many bytes the chain must have is known, so that one that goes in a circle does not end where it should.
func find(t *store.Tx, text string) (kept, api.Errno) {
	if e := mayRead(t); e != api.OK {
		return kept{}, e
	}
	s, size, e := read(text)
	if e != api.OK {
		return kept{}, e
	}
	var payload strings.Builder
	payload.WriteString(s.head)
	var pages []int
	n, left := s.first, s.behind()
chain:
	for left > 0 {
		p, e := t.Page(n)
		if e != api.OK || n == firstPage || page.Kind(p) != api.PageSpill || page.Count(p) != cellsOf(left) {
			break chain
		}
		for _, cell := range page.Cells(p) {
			if len(cell) != min(left, api.MaxCell) {
				break chain
			}
			payload.WriteString(cell)
			left -= len(cell)
		}
		pages = append(pages, n)
		n = int(page.Link(p))
	}
	if left > 0 || n != 0 {
		return kept{}, api.ErrBad
	}
	return kept{payload.String(), size, pages}, api.OK
}

// cellsOf is how many cells a page of a chain has from which on so many bytes are left.
func cellsOf(left int) int { return (min(left, pageBytes) + api.MaxCell - 1) / api.MaxCell }

// pieces goes over the pieces of a text, each of so many bytes, but the last one.
func pieces(text string, size int) iter.Seq[string] {
	return func(yield func(string) bool) {
		for at := 0; at < len(text); at += size {
			if !yield(text[at:min(at+size, len(text))]) {
				return
			}
		}
	}
}

// pageOf is the page of a chain that holds a piece, with the link of the next one.
func pageOf(piece string, next int) api.Page {
	// A piece's cells always have room.
	p, _ := page.New(api.PageSpill, uint32(next), slices.Collect(pieces(piece, api.MaxCell))...)
	return p
}
