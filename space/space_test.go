package space_test

import (
	"math"
	"strings"
	"testing"

	"bureau/api"
	"bureau/disk"
	"bureau/space"
	"bureau/store"
)

func TestP101Lay(t *testing.T) {
	eachWay(t, func(t *testing.T, log bool) {
		s, tx := laid(t, log, 0)
		sees(t, "laid", tx, firstPage(0, [8]uint32{}))
		want(t, "Laid", space.Laid(tx), api.OK)
		numbersAre(t, "laid", tx, [8]uint32{})
		frees(t, "laid", tx)
		refuses(t, "once more", tx, lay(), api.ErrBusy)
		want(t, "Commit", tx.Commit(), api.OK)
		tx = reading(t, s)
		want(t, "Laid by one that reads", space.Laid(tx), api.OK)
		sees(t, "committed", tx, firstPage(0, [8]uint32{}))
	})
}

func TestP101LayBytes(t *testing.T) {
	_, tx := laid(t, false, 0)
	p, _ := tx.Page(1)
	wanted := "\x00\x09\x00\x00\x00\x00\x08" + strings.Repeat("\x04", 8) + "bureau 1"
	if got := string(p[:]); got != wanted+strings.Repeat("\x00", api.PageSize-len(wanted)) {
		t.Errorf("page 1: %q", got)
	}
}

func TestP101LayOverPages(t *testing.T) {
	for _, pages := range [][]api.Page{{{}}, {used(1)}, {firstPage(0, [8]uint32{7})}, {used(1), freeOf(0)}} {
		refuses(t, "a database with pages", having(t, pages...), lay(), api.ErrBusy)
	}
	_, tx := laid(t, false, 3)
	want(t, "Set", space.Set(tx, 3, 8), api.OK)
	gives(t, tx, 2)
	refuses(t, "a laid one", tx, lay(), api.ErrBusy)
	want(t, "Shrink", tx.Shrink(0), api.OK)
	want(t, "Lay behind Shrink", space.Lay(tx), api.OK)
	sees(t, "laid anew", tx, firstPage(0, [8]uint32{}))
}

// TestP101Over: ErrNil and ErrOver go ahead of all other errors, ErrRead ahead of the next ones, in all calls.
func TestP101Over(t *testing.T) {
	eachWay(t, func(t *testing.T, log bool) {
		d := disk.New(plenty)
		s := opened(t, d, log)
		ended := writing(t, s)
		want(t, "Lay", space.Lay(ended), api.OK)
		want(t, "Commit", ended.Commit(), api.OK)
		rolled := writing(t, s)
		want(t, "Rollback", rolled.Rollback(), api.OK)
		other := opened(t, disk.New(plenty), log)
		empty := reading(t, other)
		fallen := disk.New(plenty)
		down := writing(t, opened(t, fallen, log))
		fallen.Crash()
		for _, c := range calls() {
			for _, tx := range []*store.Tx{nil, {}} {
				refuses(t, "no transaction", tx, c, api.ErrNil)
			}
			for _, tx := range []*store.Tx{ended, rolled, down} {
				refuses(t, "one that is over", tx, c, api.ErrOver)
			}
			reads := reading(t, s)
			if !c.reads {
				refuses(t, "one that only reads", reads, c, api.ErrRead)
				refuses(t, "one that only reads, without pages", empty, c, api.ErrRead)
			} else {
				refuses(t, "no pages, and it only reads", empty, c, api.ErrBad)
			}
			want(t, "Rollback", reads.Rollback(), api.OK)
		}
	})
}

// notFirst is pages 1 that are no first page.
func notFirst() map[string]api.Page {
	cells := firstCells([8]uint32{1, 2, 3, 4, 5, 6, 7, 8})
	with := func(i int, cell string) []string {
		changed := append([]string{}, cells...)
		changed[i] = cell
		return changed
	}
	loose := firstPage(0, [8]uint32{})
	loose[api.PageSize-1] = 1
	pages := map[string]api.Page{
		"no page":           loose,
		"another kind, 6":   raw(6, 0, cells...),
		"a free page":       freeOf(0),
		"of bytes 255":      {0: 255, 1: 255, 6: 255, 255: 255},
		"a cell more":       raw(0, 0, append(with(0, "bureau 1"), "\x00\x00\x00\x00")...),
		"a cell fewer":      raw(0, 0, cells[:8]...),
		"the text alone":    raw(0, 0, "bureau 1"),
		"no text":           raw(0, 0, cells[1:]...),
		"two texts":         raw(0, 0, append([]string{"bureau 1"}, cells[:8]...)...),
		"another text":      raw(0, 0, with(0, "bureau 2")...),
		"a great letter":    raw(0, 0, with(0, "Bureau 1")...),
		"a longer text":     raw(0, 0, with(0, "bureau 11")...),
		"a shorter text":    raw(0, 0, with(0, "bureau ")...),
		"a text of 4 bytes": raw(0, 0, with(0, "bure")...),
		"the text last":     raw(0, 0, append(append([]string{}, cells[1:]...), "bureau 1")...),
	}
	for kind := byte(1); kind <= 5; kind++ {
		pages["kind "+string('0'+rune(kind))] = raw(kind, 0, cells...)
	}
	for i := 1; i <= 8; i++ {
		at := string('0' + rune(i))
		pages["a number of 3 bytes at "+at] = raw(0, 0, with(i, "\x00\x00\x01")...)
		pages["a number of 5 bytes at "+at] = raw(0, 0, with(i, "\x00\x00\x00\x00\x01")...)
		pages["the text twice, at "+at] = raw(0, 0, with(i, "bureau 1")...)
	}
	return pages
}

// TestP101NotLaid: what page 1 must be, and that the other calls look at it where their promises name it.
func TestP101NotLaid(t *testing.T) {
	for what, p := range notFirst() {
		tx := having(t, p, used(2), freeOf(0))
		for _, c := range []call{isLaid(), get(0), get(7), get(-1), get(8), set(0), set(7), take(), give(2), give(3), give(1), give(9), allFree()} {
			refuses(t, what, tx, c, api.ErrBad)
		}
		refuses(t, what, tx, set(8), api.ErrArg)
		refuses(t, what, tx, set(-1), api.ErrArg)
		refuses(t, what, tx, lay(), api.ErrBusy)
	}
}

func TestP101NoPages(t *testing.T) {
	tx := having(t)
	for _, c := range []call{isLaid(), get(0), get(8), set(7), take(), give(0), give(1), give(2), allFree()} {
		refuses(t, "no pages", tx, c, api.ErrBad)
	}
	refuses(t, "no pages", tx, set(8), api.ErrArg)
	want(t, "Lay", space.Lay(tx), api.OK)
}

// TestP101ManyFirst: all numbers, and links that lead nowhere, make a first page: the free pages are not gone through to tell it.
func TestP101ManyFirst(t *testing.T) {
	numbers := [8]uint32{0, 1, 255, 256, 1 << 16, 1 << 24, 1 << 31, math.MaxUint32}
	for _, link := range []uint32{0, 1, 2, 3, 4, 4096, math.MaxInt32, math.MaxUint32} {
		tx := having(t, firstPage(link, numbers), used(2), freeOf(0))
		want(t, "Laid", space.Laid(tx), api.OK)
		numbersAre(t, "a first page", tx, numbers)
		want(t, "Set", space.Set(tx, 7, 12), api.OK)
		changed := numbers
		changed[7] = 12
		sees(t, "a link stays", tx, firstPage(link, changed), used(2), freeOf(0))
	}
}

func TestP102Numbers(t *testing.T) {
	eachWay(t, func(t *testing.T, log bool) {
		s, tx := laid(t, log, 4)
		gives(t, tx, 4, 2)
		var numbers [8]uint32
		for _, n := range []uint32{1, 0x01020304, 0, math.MaxUint32, 1 << 31, 77} {
			for i := range numbers {
				numbers[i] = n + uint32(i)
				want(t, "Set", space.Set(tx, i, numbers[i]), api.OK)
				numbersAre(t, "set", tx, numbers)
				sees(t, "set", tx, firstPage(2, numbers), freeOf(4), freeOf(0), freeOf(0), freeOf(0))
			}
		}
		frees(t, "behind Set", tx, 2, 4)
		want(t, "Commit", tx.Commit(), api.OK)
		tx = reading(t, s)
		numbersAre(t, "committed", tx, numbers)
		frees(t, "committed", tx, 2, 4)
	})
}

func TestP102Wrong(t *testing.T) {
	_, tx := laid(t, false, 1)
	want(t, "Set", space.Set(tx, 0, 3), api.OK)
	want(t, "Set", space.Set(tx, 7, math.MaxUint32), api.OK)
	for _, i := range []int{math.MinInt, -1 << 32, -8, -1, 8, 9, 256, 1 << 32, math.MaxInt} {
		refuses(t, "a number that is none", tx, get(i), api.ErrArg)
		refuses(t, "a number that is none", tx, set(i), api.ErrArg)
	}
	numbersAre(t, "behind what was refused", tx, [8]uint32{0: 3, 7: math.MaxUint32})
}

// TestP102Reads: one that only reads gets the numbers, and sets none, whichever it asks for.
func TestP102Reads(t *testing.T) {
	s, tx := laid(t, true, 0)
	want(t, "Set", space.Set(tx, 2, 9), api.OK)
	want(t, "Commit", tx.Commit(), api.OK)
	tx = reading(t, s)
	numbersAre(t, "one that reads", tx, [8]uint32{2: 9})
	for _, i := range []int{-1, 0, 2, 7, 8} {
		refuses(t, "one that reads", tx, set(i), api.ErrRead)
	}
	refuses(t, "one that reads", tx, get(8), api.ErrArg)
}
