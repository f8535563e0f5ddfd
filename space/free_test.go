package space_test

import (
	"math"
	"slices"
	"testing"

	"bureau/api"
	"bureau/disk"
	"bureau/space"
)

// chain is a laid database of count pages, those of the list free, the others in use.
func chain(count int, free ...int) []api.Page {
	pages := []api.Page{firstPage(0, [8]uint32{5, 6})}
	for n := 2; n <= count; n++ {
		pages = append(pages, used(n))
	}
	link := uint32(0)
	for _, n := range slices.Backward(free) {
		pages[n-1] = freeOf(link)
		link = uint32(n)
	}
	pages[0] = firstPage(link, [8]uint32{5, 6})
	return pages
}

func TestP103Examples(t *testing.T) {
	eachWay(t, func(t *testing.T, log bool) {
		_, tx := laid(t, log, 2)
		frees(t, "taken", tx)
		gives(t, tx, 2, 3)
		frees(t, "given", tx, 3, 2)
		takes(t, tx, 3)
		frees(t, "taken again", tx, 2)
		refuses(t, "the first page", tx, give(1), api.ErrArg)
	})
}

// TestP103TakeNew: a page more is of the form of a free one, at the end, and not free.
func TestP103TakeNew(t *testing.T) {
	tx := having(t, chain(1)...)
	takes(t, tx, 2)
	sees(t, "one page more", tx, append(chain(1), freeOf(0))...)
	frees(t, "one page more", tx)
	tx = having(t, chain(9)...)
	takes(t, tx, 10)
	takes(t, tx, 11)
	sees(t, "two pages more", tx, append(chain(9), freeOf(0), freeOf(0))...)
}

// TestP103TakeFree: the first free page is taken, and stays as it is; the count stays.
func TestP103TakeFree(t *testing.T) {
	for _, free := range [][]int{{2}, {6}, {4, 6}, {6, 2, 3}, {2, 3, 4, 5, 6}, {6, 5, 4, 3, 2}} {
		pages := chain(6, free...)
		tx := having(t, pages...)
		for i, n := range free {
			frees(t, "on the way", tx, free[i:]...)
			takes(t, tx, n)
			rest := append(slices.Clone(free[i+1:]), 0)
			pages[0] = firstPage(uint32(rest[0]), [8]uint32{5, 6})
			sees(t, "taken", tx, pages...)
		}
		frees(t, "all taken", tx)
		takes(t, tx, 7)
		frees(t, "and one more", tx)
	}
}

// TestP103Give: a page that is given becomes the first free one, without cells, whatever it was.
func TestP103Give(t *testing.T) {
	torn := api.Page{0: 77, 1: 200, 255: 3}
	for _, old := range []api.Page{{}, used(2), raw(0, 3, "cell"), freeOf(3), raw(5, 2, "spill"), firstPage(2, [8]uint32{1}), torn} {
		for _, free := range [][]int{nil, {3}, {4, 3}} {
			for _, n := range []int{2, 5} {
				pages := chain(5, free...)
				pages[n-1] = old
				tx := having(t, pages...)
				gives(t, tx, n)
				frees(t, "given", tx, append([]int{n}, free...)...)
				first := 0
				if len(free) > 0 {
					first = free[0]
				}
				pages[0], pages[n-1] = firstPage(uint32(n), [8]uint32{5, 6}), freeOf(uint32(first))
				sees(t, "given", tx, pages...)
			}
		}
	}
}

// TestP103GiveTwice: a page that is free already becomes the first one, and is met once still.
func TestP103GiveTwice(t *testing.T) {
	for _, free := range [][]int{{2}, {2, 3}, {5, 3, 2}, {2, 3, 4, 5, 6}} {
		for _, n := range free {
			tx := having(t, chain(6, free...)...)
			gives(t, tx, n)
			wanted := []int{n}
			for _, m := range free {
				if m != n {
					wanted = append(wanted, m)
				}
			}
			frees(t, "given once more", tx, wanted...)
			sees(t, "given once more", tx, chain(6, wanted...)...)
			for _, m := range wanted {
				takes(t, tx, m)
			}
			takes(t, tx, 7)
		}
	}
}

func TestP103GiveWrong(t *testing.T) {
	for _, pages := range [][]api.Page{chain(1), chain(2), chain(5, 3), chain(5, 2, 3, 4, 5)} {
		tx := having(t, pages...)
		count := len(pages)
		for _, n := range []int{math.MinInt, -1 << 32, 2 - 1<<32, -2, -1, 0, 1, count + 1, count + 2, 4096, 4097, 1<<32 + 2, math.MaxInt} {
			refuses(t, "a page that is none", tx, give(n), api.ErrArg)
		}
	}
	tx := having(t, chain(2)...)
	gives(t, tx, 2)
	frees(t, "the last page", tx, 2)
}

// broken is databases whose free pages are not in order: the pages, how many of them can be gone through ahead of what is wrong.
type broken struct {
	what  string
	pages []api.Page
	good  []int
}

func brokenChains() []broken {
	with := func(n int, p api.Page, free ...int) []api.Page {
		pages := chain(6, free...)
		pages[n-1] = p
		return pages
	}
	loose := freeOf(0)
	loose[255] = 1
	all := []broken{
		{"page 1, by the first page", with(1, firstPage(1, [8]uint32{})), nil},
		{"above the count, by the first page", with(1, firstPage(7, [8]uint32{})), nil},
		{"above MaxPages", with(1, firstPage(4097, [8]uint32{})), nil},
		{"the greatest link", with(1, firstPage(math.MaxUint32, [8]uint32{})), nil},
		{"a link above the int32", with(1, firstPage(1<<31, [8]uint32{})), nil},
		{"a page alone that leads to page 2", []api.Page{firstPage(2, [8]uint32{})}, nil},
		{"itself", with(3, freeOf(3), 3), []int{3}},
		{"page 1, by a free one", with(3, freeOf(1), 3), []int{3}},
		{"above the count, by a free one", with(3, freeOf(7), 3), []int{3}},
		{"the greatest link, by a free one", with(3, freeOf(math.MaxUint32), 3), []int{3}},
		{"in use, by a free one", with(3, freeOf(2), 3), []int{3}},
		{"two in a circle", with(5, freeOf(3), 3, 5), []int{3, 5}},
		{"all in a circle", with(6, freeOf(2), 2, 3, 4, 5, 6), []int{2, 3, 4, 5, 6}},
		{"all, and the last one itself", with(6, freeOf(6), 2, 3, 4, 5, 6), []int{2, 3, 4, 5, 6}},
		{"all, and the last but one", with(6, freeOf(5), 2, 3, 4, 5, 6), []int{2, 3, 4, 5, 6}},
	}
	for kind := byte(1); kind <= 5; kind++ {
		all = append(all,
			broken{"another kind", with(3, raw(kind, 0), 3), nil},
			broken{"another kind, behind another", with(3, raw(kind, 0), 4, 3), []int{4}})
	}
	return append(all,
		broken{"with a cell", with(3, raw(0, 0, "c"), 3), nil},
		broken{"with a cell, behind others", with(3, raw(0, 0, "c"), 6, 5, 3), []int{6, 5}},
		broken{"no page", with(3, loose, 3), nil},
		broken{"no page, of a kind that is none", with(3, raw(6, 0), 3), nil},
		broken{"no page, behind another", with(3, loose, 2, 3), []int{2}})
}

// TestP103FreeBad: Free goes through all of them; the calls that do not, do not tell what is wrong.
func TestP103FreeBad(t *testing.T) {
	for _, b := range brokenChains() {
		tx := having(t, b.pages...)
		refuses(t, b.what, tx, allFree(), api.ErrBad)
		want(t, b.what+": Laid", space.Laid(tx), api.OK)
		want(t, b.what+": Set", space.Set(tx, 0, 1), api.OK)
		if n, e := space.Get(tx, 0); n != 1 || e != api.OK {
			t.Errorf("%s: Get: %d %v", b.what, n, e)
		}
	}
}

// TestP103TakeBad: Take goes to the first free page alone.
func TestP103TakeBad(t *testing.T) {
	for _, b := range brokenChains() {
		tx := having(t, b.pages...)
		for _, n := range b.good {
			takes(t, tx, n)
		}
		if len(b.good) == 0 {
			refuses(t, b.what, tx, take(), api.ErrBad)
		}
	}
}

// TestP103GiveBad: what is wrong with the free pages is no error of Give's, also of a page that looks like a free one.
func TestP103GiveBad(t *testing.T) {
	for _, b := range brokenChains() {
		for n := 2; n <= len(b.pages); n++ {
			for _, p := range []api.Page{b.pages[n-1], freeOf(0)} {
				pages := slices.Clone(b.pages)
				pages[n-1] = p
				tx := having(t, pages...)
				gives(t, tx, n)
				if p, _ := tx.Page(1); p[5] != byte(n) {
					t.Errorf("%s: page %d is not the first free one", b.what, n)
				}
				takes(t, tx, n)
			}
		}
	}
}

// TestP103Full: a database of MaxPages pages has no page more, but those that are given.
func TestP103Full(t *testing.T) {
	_, tx := laid(t, false, api.MaxPages-2)
	takes(t, tx, api.MaxPages)
	refuses(t, "full", tx, take(), api.ErrFull)
	gives(t, tx, api.MaxPages, 2)
	frees(t, "full", tx, 2, api.MaxPages)
	takes(t, tx, 2)
	takes(t, tx, api.MaxPages)
	refuses(t, "full again", tx, take(), api.ErrFull)
	refuses(t, "above MaxPages", tx, give(api.MaxPages+1), api.ErrArg)
	var wanted []int
	for n := api.MaxPages; n >= 2; n-- {
		gives(t, tx, n)
		wanted = append(wanted, api.MaxPages+2-n)
	}
	frees(t, "all of them", tx, wanted...)
	want(t, "Put", tx.Put(1, used(1)), api.OK)
	refuses(t, "full, and not laid", tx, take(), api.ErrBad)
}

// TestP103FreshList: the list that Free answers is the caller's own.
func TestP103FreshList(t *testing.T) {
	tx := having(t, chain(5, 4, 3)...)
	one, _ := space.Free(tx)
	one[0] = 99
	frees(t, "a list was changed", tx, 4, 3)
}

// TestP103CutFile: pages that went away behind the transaction's back are none of this program's.
func TestP103CutFile(t *testing.T) {
	d := disk.New(plenty)
	s := opened(t, d, false)
	tx := writing(t, s)
	for i, p := range chain(3, 3) {
		want(t, "Put", tx.Put(i+1, p), api.OK)
	}
	want(t, "Commit", tx.Commit(), api.OK)
	tx = writing(t, s)
	want(t, "Truncate", d.Truncate("db", 2*api.PageSize), api.OK)
	want(t, "Laid", space.Laid(tx), api.OK)
	for _, c := range []call{allFree(), take()} {
		if answer, e := c.does(tx); answer || e != api.ErrBad {
			t.Errorf("%s of a page that went away: %v", c.name, e)
		}
	}
	want(t, "Truncate", d.Truncate("db", 0), api.OK)
	for _, c := range []call{isLaid(), get(0), set(0), take(), give(2), allFree()} {
		if answer, e := c.does(tx); answer || e != api.ErrBad {
			t.Errorf("%s without a page 1: %v", c.name, e)
		}
	}
}
