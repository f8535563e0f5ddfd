package check_test

import (
	"slices"
	"testing"

	"bureau/api"
	"bureau/check"
)

// TestP142Free: the free pages, from the first one on.
func TestP142Free(t *testing.T) {
	for _, d := range append(allLaid(), small()...) {
		frees(t, d.what, d.pages, d.free)
	}
	frees(t, "in any order", []api.Page{firstPage(3), raw(0, 0), raw(0, 5), raw(1, 0), raw(0, 2)}, []int{3, 5, 2})
}

// TestP142FreeAlone: what the other pages hold, and whether they may be, is nothing to Free.
func TestP142FreeAlone(t *testing.T) {
	for _, d := range append(small(), forests()...) {
		for i := range d.pages[1:] {
			if !slices.Contains(d.free, i+2) {
				for _, p := range []api.Page{{}, {9}, {0: 1, 255: 1}, raw(0, 1), raw(5, 0), raw(2, 0)} {
					frees(t, d.what, with(d.pages, i+2, p), d.free)
				}
			}
		}
	}
}

// noFirstPages is pages that are no first page, which lead to no free one.
func noFirstPages() []api.Page {
	cells := firstCells()
	with := func(i int, cell string) api.Page {
		other := slices.Clone(cells)
		other[i] = cell
		return raw(0, 0, other...)
	}
	all := []api.Page{{}, {0: 0, 255: 1}, {0: 9}, raw(0, 0, cells[:8]...), raw(0, 0, cells[1:]...), raw(0, 0, append(cells, fourBytes(7))...), raw(0, 0, append(cells, "x")...), raw(0, 0, cells[0])}
	for _, mark := range []string{"bureau 2", "bureau", "Bureau 1", "bureau 1 ", "bureau 1\x00", "ureau 1", fourBytes(1), "b"} {
		all = append(all, with(0, mark))
	}
	for i := 1; i <= 8; i++ {
		all = append(all, with(i, "x"), with(i, "abc"), with(i, "abcde"), with(i, "bureau 1"))
	}
	for kind := byte(1); kind <= 5; kind++ {
		all = append(all, raw(kind, 0, cells...))
	}
	for _, p := range pagesThatMayNotBe(firstPage(0)) {
		all = append(all, p)
	}
	return all
}

// TestP142FreeFirst: of a page 1 that is no first page Free is ErrBad, and no database is whole; of no pages likewise.
func TestP142FreeFirst(t *testing.T) {
	noFree(t, "no pages", nil)
	noFree(t, "no pages", []api.Page{})
	for _, p := range noFirstPages() {
		for _, d := range append(small(), newLayer("a page alone", 1).done(), newLayer("free pages", 4).done()) {
			p := p
			p[5] = byte(append(d.free, 0)[0])
			noFree(t, d.what, with(d.pages, 1, p))
			whole(t, d.what, with(d.pages, 1, p), d.forest, api.ErrBad)
		}
		whole(t, "a page alone", []api.Page{p}, nil, api.ErrBad)
	}
	numbers := make([]string, 9)
	for i := range numbers {
		numbers[i] = "\xff\x00ab"
	}
	numbers[0] = "bureau 1"
	whole(t, "other numbers", []api.Page{raw(0, 0, numbers...)}, nil, api.OK)
}

// TestP142FreeWrong: free pages that go in a circle, that lead to a page that is not there, or is none that is free.
func TestP142FreeWrong(t *testing.T) {
	d := newLayer("free pages", 6)
	d.left = []int{4, 2, 6, 3}
	d.pages[4] = raw(1, 0) // page 5
	l := d.done()
	l.forest = []api.Root{{Page: 5}}
	whole(t, l.what, l.pages, l.forest, api.OK)
	for place, n := range append([]int{1}, l.free...) {
		laysLink := func(link int) api.Page {
			if n == 1 {
				return firstPage(link)
			}
			return raw(0, link)
		}
		for _, link := range []int{1, 2, 3, 4, 5, 6, 7, 8, 255, 1 << 8, 2 << 8, 1 << 16, 2 << 16, 1 << 24, 2 << 24, 1<<31 - 1, 1 << 31, 1<<32 - 1, 1<<32 - 4} {
			pages := with(l.pages, n, laysLink(link))
			ahead := append([]int{1}, l.free[:place]...)
			if at := slices.Index(l.free, link); link == 1 || at < 0 || slices.Contains(ahead, link) {
				noFree(t, "a link astray", pages)
				whole(t, "a link astray", pages, l.forest, api.ErrBad)
			} else {
				frees(t, "a link that leaves some out", pages, append(ahead[1:], l.free[at:]...))
			}
		}
		if n == 1 {
			continue
		}
		for _, p := range append(pagesThatMayNotBe(l.pages[n-1]), raw(0, int(l.pages[n-1][5]), "x"), firstPage(0), raw(1, 0), raw(3, 0), raw(5, 0, "x"), raw(5, int(l.pages[n-1][5]))) {
			noFree(t, "no free page", with(l.pages, n, p))
			whole(t, "no free page", with(l.pages, n, p), l.forest, api.ErrBad)
		}
	}
}

// TestP142FreeNew: an answer is new memory.
func TestP142FreeNew(t *testing.T) {
	d := newLayer("free pages", 9).done()
	one, _ := check.Free(d.pages)
	two, _ := check.Free(d.pages)
	clear(one[:cap(one)])
	if !slices.Equal(two, d.free) {
		t.Error("two answers share memory")
	}
	frees(t, "again", d.pages, d.free)
}
