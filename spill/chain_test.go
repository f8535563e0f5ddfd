package spill_test

import (
	"math"
	"slices"
	"strings"
	"testing"

	"bureau/api"
	"bureau/disk"
	"bureau/spill"
)

// TestP112ByHand: chains that were laid by hand, forth and back through the pages, are read by one that only reads, too.
func TestP112ByHand(t *testing.T) {
	eachWay(t, func(t *testing.T, log bool) {
		for _, length := range edges {
			for _, numbers := range [][]int{upTo(2, 18), upTo(24, 40), {40, 2, 39, 3, 38, 4, 37, 5, 36, 6, 35, 7, 34, 8, 33, 9, 32}} {
				numbers = numbers[:pagesFor(length)]
				payload := payloadOf(length, 6)
				pages := database(40)
				stub := lay(pages, payload, numbers...)
				s := opened(t, disk.New(plenty), log)
				tx := writing(t, s)
				for i, p := range pages {
					want(t, "Put", tx.Put(i+1, p), api.OK)
				}
				holds(t, tx, stub, payload, numbers...)
				want(t, "Commit", tx.Commit(), api.OK)
				tx = reading(t, s)
				holds(t, tx, stub, payload, numbers...)
				sees(t, "read", tx, pages...)
			}
		}
	})
}

// TestP112Beginnings: a stub that is cut short anywhere is none.
func TestP112Beginnings(t *testing.T) {
	for _, length := range edges {
		payload := payloadOf(length, 7)
		pages := database(20)
		stub := lay(pages, payload, upTo(2, 20)[:pagesFor(length)]...)
		tx := having(t, pages...)
		for n := range len(stub) {
			refusesStub(t, "cut short", tx, stub[:n])
		}
		holds(t, tx, stub, payload, upTo(2, 20)[:pagesFor(length)]...)
	}
}

// TestP112Lengths: a text that does not begin with the varint of a length that may be begins with no stub, whatever is behind.
func TestP112Lengths(t *testing.T) {
	tx := having(t, database(20)...)
	for _, cut := range []string{"", "\x80", "\xff", "\x81\x80", strings.Repeat("\xff", 8)} {
		refusesStub(t, "a length that is cut short", tx, cut)
	}
	more := payloadOf(40, 0) + fourBytes(2) + strings.Repeat("\x00", 5000)
	zeros := strings.Repeat("\x80", 7)
	for _, length := range []string{
		"\x80\x00", "\x80\x01", "\x80\x80\x03", "\x80" + zeros + "\x03", // not the shortest form
		lengthBytes(4001), lengthBytes(4002), lengthBytes(4096), lengthBytes(1<<14 - 1),
		"\x81\x80\x00", "\x84\x80\x80\x80\x00", "\x90\x80\x80\x80\x00", "\x90\x80\x80\x80\x28", "\x90\x80\x80\x80\x03", // 2^32 and some
		"\xc0" + zeros + "\x00", "\xc0" + zeros + "\x03", "\xff" + zeros + "\x03", strings.Repeat("\xff", 9), // from 2^63 on
	} {
		refusesStub(t, "a length that may not be, alone", tx, length)
		refusesStub(t, "a length that may not be", tx, length+more)
	}
	holds(t, tx, lengthBytes(40)+more[:40], more[:40])
}

// wrong is a stub with the pages in which its chain is to be, that is not as the chapter has it.
type wrong struct {
	what  string
	pages []api.Page
	stub  string
}

// chainAt is a database of 12 pages with a chain by hand in those pages.
func chainAt(length int, numbers ...int) ([]api.Page, string) {
	pages := database(12, 11, 12)
	return pages, lay(pages, payloadOf(length, 8), numbers...)
}

// wrongLinks is chains whose links, that of the stub among them, lead where they should not.
func wrongLinks(length int, numbers ...int) []wrong {
	pages, stub := chainAt(length, numbers...)
	lay(pages, payloadOf(287, 3), 9, 10) // another chain, whose last page has as many bytes as none of the others
	var all []wrong
	for _, to := range []uint32{0, 1, 2, 9, 10, 11, 12, 13, 4096, 4097, 1 << 16, 1<<24 + 5, math.MaxInt32, math.MaxUint32, uint32(numbers[0]), uint32(numbers[len(numbers)-1])} {
		if to != uint32(numbers[0]) {
			all = append(all, wrong{"the stub's link", pages, stub[:len(stub)-4] + fourBytes(to)})
		}
		for i, n := range numbers {
			right := uint32(0)
			if i+1 < len(numbers) {
				right = uint32(numbers[i+1])
			}
			if to == right {
				continue
			}
			p := pages[n-1]
			copy(p[2:6], fourBytes(to))
			all = append(all, wrong{"a link", with(pages, n, p), stub})
		}
	}
	return all
}

// wrongBytes is chains of which one page has other cells than it should, or is of another kind.
func wrongBytes(length int, numbers ...int) []wrong {
	pages, stub := chainAt(length, numbers...)
	var all []wrong
	for _, n := range numbers {
		add := func(what string, p api.Page) { all = append(all, wrong{what, with(pages, n, p), stub}) }
		p := pages[n-1]
		link := uint32(p[2])<<24 | uint32(p[3])<<16 | uint32(p[4])<<8 | uint32(p[5])
		var cells []string
		for i, at := 0, 6+int(p[1]); i < int(p[1]); i++ {
			cells, at = append(cells, string(p[at:at+int(p[6+i])])), at+int(p[6+i])
		}
		bytes := strings.Join(cells, "")
		last := cells[len(cells)-1]
		for kind := byte(0); kind <= 4; kind++ {
			add("another kind", raw(kind, link, cells...))
		}
		for _, kind := range []byte{6, 7, 255} {
			add("a kind that is none", raw(kind, link, cells...))
		}
		loose := p
		loose[255] = 1
		add("no page", loose)
		add("no cells", raw(5, link))
		add("a cell fewer", raw(5, link, cells[1:]...))
		add("a shorter cell", raw(5, link, append(slices.Clone(cells[:len(cells)-1]), last[1:])...))
		for extra := 1; extra <= 5; extra++ {
			add("a cell more", raw(5, link, append(slices.Clone(cells), "extra"[:extra])...))
		}
		if len(last) < 60 {
			add("a longer cell", raw(5, link, append(slices.Clone(cells[:len(cells)-1]), last+"x")...))
		}
		for at := 1; at < len(bytes); at++ {
			if other := cutAt(bytes, at); !slices.Equal(other, cells) && 6+len(other)+len(bytes) <= api.PageSize {
				add("cells of other lengths", raw(5, link, other...))
			}
		}
	}
	return all
}

// cutAt is the cells of a piece's two parts.
func cutAt(piece string, at int) []string {
	return append(cellsOf(piece[:at]), cellsOf(piece[at:])...)
}

// wrongLengths is stubs of lengths that the chain does not have.
func wrongLengths(length int, numbers ...int) []wrong {
	pages, stub := chainAt(length, numbers...)
	behind := stub[len(lengthBytes(length)):]
	var all []wrong
	for _, other := range []int{41, 42, length - 240, length - 60, length - 2, length - 1, length + 1, length + 2, length + 60, length + 240, 4000} {
		if other > 40 && other != length && other <= 4000 {
			all = append(all, wrong{"another length", pages, lengthBytes(other) + behind})
		}
	}
	return all
}

// TestP112WrongChains: all of them are refused by Get, Pages and Drop, which changes nothing then (P11.3).
func TestP112WrongChains(t *testing.T) {
	for length, numbers := range map[int][]int{
		41: {3}, 99: {3}, 100: {8}, 101: {3}, 220: {2}, 279: {3}, 280: {3}, 281: {7, 3}, 341: {2, 3}, 520: {3, 7}, 521: {7, 4, 3}, 1001: {3, 4, 5, 6, 8},
	} {
		pages, stub := chainAt(length, numbers...)
		holds(t, having(t, pages...), stub, payloadOf(length, 8), numbers...)
		for _, w := range slices.Concat(wrongLinks(length, numbers...), wrongBytes(length, numbers...), wrongLengths(length, numbers...)) {
			tx := having(t, w.pages...)
			refusesStub(t, w.what, tx, w.stub)
			refusesStub(t, w.what+", with more behind", tx, w.stub+"more")
			if t.Failed() {
				t.Fatalf("of %d bytes in the pages %v", length, numbers)
			}
		}
	}
}

// TestP112OtherSpread: all bytes are there, in cells of 60 but the last one, but not 240 in each page but the last one.
func TestP112OtherSpread(t *testing.T) {
	for _, counts := range [][]int{ // bytes of the pages
		{60, 1}, {60, 60}, {180, 240}, {180, 121}, {60, 240, 120}, {240, 180, 1}, {240, 60, 240, 7}, {240, 120, 240, 240},
		{241}, {245}, {240, 245}, {245, 240}, {240, 0}, {0, 240}, {0, 41}, {240, 0, 100}, {240, 100, 0},
	} {
		pages := database(9)
		rest := 0
		for _, count := range counts {
			rest += count
		}
		payload := payloadOf(40+rest, 2)
		at := 40
		for i, count := range counts {
			var cells []string
			if count > 0 {
				cells = cellsOf(payload[at : at+count])
			}
			at += count
			link := uint32(0)
			if i+1 < len(counts) {
				link = uint32(i + 4)
			}
			pages[i+2] = raw(5, link, cells...)
		}
		refusesStub(t, "spread otherwise", having(t, pages...), stubOf(payload, 3))
	}
}

// TestP112TooLong: a chain of more bytes than a payload may have, all else as it should be.
func TestP112TooLong(t *testing.T) {
	for _, length := range []int{4001, 4060, 4119, 4120, 4121, 4360} {
		pages := database(30)
		stub := lay(pages, payloadOf(length, 1), upTo(3, 2+pagesFor(length))...)
		refusesStub(t, "too long", having(t, pages...), stub)
	}
}

// TestP112Circles: chains that go in a circle of any number of pages, also of just the bytes that are wanted.
func TestP112Circles(t *testing.T) {
	for round := 1; round <= 17; round++ {
		for length := 280; length <= 4000; length += 240 {
			pages := database(20)
			for n := 2; n < 2+round; n++ {
				next := uint32(n + 1)
				if n == 1+round {
					next = 2
				}
				pages[n-1] = raw(5, next, cellsOf(payloadOf(240, n))...)
			}
			refusesStub(t, "a circle", having(t, pages...), stubOf(payloadOf(length, 0), 2))
		}
	}
}

// TestP112PageOne: the first page belongs to no chain, not even where it has the form of a page of one.
func TestP112PageOne(t *testing.T) {
	for length, numbers := range map[int][]int{41: {1}, 280: {1}, 281: {1, 2}, 300: {2, 1}, 700: {3, 1, 2}} {
		pages := make([]api.Page, 3)
		stub := lay(pages, payloadOf(length, 0), numbers...)
		refusesStub(t, "page 1", having(t, pages...), stub)
	}
}

// TestP112NotLaid: what is read needs no first page.
func TestP112NotLaid(t *testing.T) {
	pages := []api.Page{used(1), {}, {}}
	payload := payloadOf(300, 0)
	stub := lay(pages, payload, 3, 2)
	tx := having(t, pages...)
	holds(t, tx, stub, payload, 3, 2)
	holds(t, tx, "\x00", "")
	tx = having(t)
	holds(t, tx, "\x03abc", "abc")
	refusesStub(t, "no pages", tx, stub)
}

// TestP112BytesChanged: a byte of a chain's page that is none of the payload's is changed to any other one.
func TestP112BytesChanged(t *testing.T) {
	for _, length := range []int{101, 280, 400} {
		numbers := []int{5, 3}[:pagesFor(length)]
		pages, stub := chainAt(length, numbers...)
		tx := having(t, pages...)
		for _, n := range numbers {
			p := pages[n-1]
			from := 6 + int(p[1])
			to := from
			for _, l := range p[6:from] {
				to += int(l)
			}
			for at := range p {
				for b := range 256 {
					if at >= from && at < to || p[at] == byte(b) {
						continue
					}
					q := p
					q[at] = byte(b)
					want(t, "Put", tx.Put(n, q), api.OK)
					if got, size, e := spill.Get(tx, stub); got != "" || size != 0 || e != api.ErrBad {
						t.Fatalf("byte %d of page %d is %d: %d bytes %v", at, n, b, len(got), e)
					}
				}
			}
			want(t, "Put", tx.Put(n, p), api.OK)
		}
		holds(t, tx, stub, payloadOf(length, 8), numbers...)
	}
}

// TestP112FreshList: the list that Pages answers is the caller's own.
func TestP112FreshList(t *testing.T) {
	pages, stub := chainAt(600, 7, 3, 5)
	tx := having(t, pages...)
	one, _ := spill.Pages(tx, stub)
	one[0] = 99
	_ = append(one, 98)
	holds(t, tx, stub, payloadOf(600, 8), 7, 3, 5)
}

// TestP112CutFile: pages that went away behind the transaction's back are none of a chain.
func TestP112CutFile(t *testing.T) {
	d := disk.New(plenty)
	s := opened(t, d, false)
	tx := writing(t, s)
	pages, stub := chainAt(600, 7, 3, 5)
	for i, p := range pages {
		want(t, "Put", tx.Put(i+1, p), api.OK)
	}
	want(t, "Commit", tx.Commit(), api.OK)
	tx = writing(t, s)
	want(t, "Truncate", d.Truncate("db", 4*api.PageSize), api.OK)
	for _, c := range []call{get(stub), pagesOf(stub), drop(stub)} {
		if answer, e := c.does(tx); answer || e != api.ErrBad {
			t.Errorf("%s of a page that went away: %v", c.name, e)
		}
	}
}
