package spill_test

import (
	"math"
	"slices"
	"strings"
	"testing"

	"bureau/api"
	"bureau/disk"
	"bureau/space"
	"bureau/spill"
	"bureau/store"
)

func TestP111Examples(t *testing.T) {
	eachWay(t, func(t *testing.T, log bool) {
		_, tx := laid(t, log)
		puts(t, tx, "abc", "\x03abc")
		if p, n, e := spill.Get(tx, "\x03abcand more"); p != "abc" || n != 4 || e != api.OK {
			t.Errorf("Get: %q %d %v", p, n, e)
		}
		long := strings.Repeat("y", 41)
		puts(t, tx, long, "\x29"+long[:40]+"\x00\x00\x00\x02")
		p, e := tx.Page(2)
		want(t, "Page", e, api.OK)
		if p != (api.Page{0: 5, 1: 1, 6: 1, 7: 'y'}) {
			t.Errorf("page 2: % x", p)
		}
		s, e := spill.Put(tx, strings.Repeat("z", 1000))
		want(t, "Put", e, api.OK)
		if l, e := spill.Pages(tx, s); len(l) != 4 || e != api.OK {
			t.Errorf("Pages: %v %v", l, e)
		}
		refusesStub(t, "cut short", tx, "\x05ab")
	})
}

// upTo is the numbers from one on, up to another one.
func upTo(from, to int) []int {
	var numbers []int
	for n := from; n <= to; n++ {
		numbers = append(numbers, n)
	}
	return numbers
}

// TestP111NewPages: of payloads of all edges the stub and the chain are laid as by hand, in pages more at the end.
func TestP111NewPages(t *testing.T) {
	eachWay(t, func(t *testing.T, log bool) {
		for _, length := range edges {
			s, tx := laid(t, log)
			was := seen(t, tx)
			payload := payloadOf(length, 1)
			pages := append(was, make([]api.Page, pagesFor(length))...)
			numbers := upTo(2, len(pages))
			stub := lay(pages, payload, numbers...)
			puts(t, tx, payload, stub)
			sees(t, "put", tx, pages...)
			frees(t, "put", tx)
			holds(t, tx, stub, payload, numbers...)
			want(t, "Commit", tx.Commit(), api.OK)
			tx = reading(t, s)
			sees(t, "committed", tx, pages...)
			holds(t, tx, stub, payload, numbers...)
		}
	})
}

// TestP111FreePages: free pages are taken ahead of new ones, in their order, the first one first.
func TestP111FreePages(t *testing.T) {
	for _, free := range [][]int{{2}, {7}, {5, 3}, {3, 5}, {6, 2, 7, 3}, {2, 3, 4, 5, 6, 7}, {7, 6, 5, 4, 3, 2}} {
		for _, length := range edges {
			pages := database(7, free...)
			tx := having(t, pages...)
			n := pagesFor(length)
			used := min(n, len(free))
			numbers := append(slices.Clone(free[:used]), upTo(8, 7+n-used)...)
			pages = append(pages, make([]api.Page, n-used)...)
			payload := payloadOf(length, 2)
			stub := lay(pages, payload, numbers...)
			pages[0] = database(7, free[used:]...)[0]
			puts(t, tx, payload, stub)
			sees(t, "free pages", tx, pages...)
			frees(t, "free pages", tx, free[used:]...)
			holds(t, tx, stub, payload, numbers...)
		}
	}
}

// TestP111AnyBytes: a payload may be any bytes, those of a stub and of a page among them.
func TestP111AnyBytes(t *testing.T) {
	for _, length := range edges {
		for _, b := range []string{"\x00", "\xff", "\x80", "\x05"} {
			_, tx := laid(t, false)
			payload := strings.Repeat(b, length)
			s, e := spill.Put(tx, payload)
			want(t, "Put", e, api.OK)
			if p, n, e := spill.Get(tx, s); p != payload || n != len(s) || e != api.OK {
				t.Errorf("%d bytes %x: %d %v", length, b, n, e)
			}
		}
	}
}

func TestP111Long(t *testing.T) {
	_, tx := laid(t, false)
	for _, length := range []int{4001, 4002, 4096, 5000, 1 << 16} {
		refuses(t, "too long", tx, put(strings.Repeat("x", length)), api.ErrLong)
	}
	if _, e := spill.Put(tx, strings.Repeat("x", 4000)); e != api.OK {
		t.Error(e)
	}
}

// callsAt is all functions, with arguments that may be and with those that may not.
func callsAt(payloads, stubs []string) []call {
	var all []call
	for _, p := range payloads {
		all = append(all, put(p))
	}
	for _, s := range stubs {
		all = append(all, get(s), pagesOf(s), drop(s))
	}
	return all
}

// TestP111Over: ErrNil and ErrOver go ahead of all other errors, ErrRead ahead of the next ones, in all calls.
func TestP111Over(t *testing.T) {
	payloads := []string{"", "abc", payloadOf(41, 0), payloadOf(4000, 0), payloadOf(4001, 0)}
	stubs := []string{"", "\x80", "\x00", "\x03abc", "\x05ab", stubOf(payloadOf(41, 0), 2), stubOf(payloadOf(41, 0), 9)}
	eachWay(t, func(t *testing.T, log bool) {
		s, ended := laid(t, log)
		puts(t, ended, payloadOf(41, 0), stubOf(payloadOf(41, 0), 2))
		want(t, "Commit", ended.Commit(), api.OK)
		rolled := writing(t, s)
		want(t, "Rollback", rolled.Rollback(), api.OK)
		fallen := disk.New(plenty)
		down := writing(t, opened(t, fallen, log))
		want(t, "Lay", space.Lay(down), api.OK)
		fallen.Crash()
		empty := reading(t, opened(t, disk.New(plenty), log))
		reads := reading(t, s)
		for _, c := range callsAt(payloads, stubs) {
			for _, tx := range []*store.Tx{nil, {}} {
				refuses(t, "no transaction", tx, c, api.ErrNil)
			}
			for _, tx := range []*store.Tx{ended, rolled, down} {
				refuses(t, "one that is over", tx, c, api.ErrOver)
			}
			if !c.reads {
				refuses(t, "one that only reads", reads, c, api.ErrRead)
				refuses(t, "one that only reads, without pages", empty, c, api.ErrRead)
			}
		}
	})
}

// TestP111NotLaid: space's ErrBad comes behind ErrLong, and where a page is to be taken.
func TestP111NotLaid(t *testing.T) {
	for _, pages := range [][]api.Page{
		nil, {{}}, {used(1)}, {freeOf(0)}, {raw(5, 0, "spill")}, {raw(0, 0, "bureau 1"), freeOf(0)},
		{{0: 77, 9: 1}, freeOf(0)},
	} {
		tx := having(t, pages...)
		for _, length := range []int{41, 280, 281, 4000} {
			refuses(t, "not laid", tx, put(payloadOf(length, 0)), api.ErrBad)
		}
		refuses(t, "not laid, and too long", tx, put(payloadOf(4001, 0)), api.ErrLong)
		for _, length := range []int{0, 1, 39, 40} {
			payload := payloadOf(length, 3)
			puts(t, tx, payload, stubOf(payload, 0))
			holds(t, tx, stubOf(payload, 0), payload)
			drops(t, tx, stubOf(payload, 0))
		}
		sees(t, "no page was taken", tx, pages...)
	}
}

// TestP111FreeBad: free pages that are not in order are told when they are come to, and then nothing was taken.
func TestP111FreeBad(t *testing.T) {
	loose := freeOf(0)
	loose[255] = 1
	good := []int{5, 3, 2}
	for _, free := range [][]int{good[:1], good[:2], good} {
		pages := database(6, free...)
		last := free[len(free)-1]
		for what, p := range map[string]api.Page{
			"itself": freeOf(uint32(last)), "the first one": freeOf(uint32(free[0])), "page 1": freeOf(1),
			"above the count": freeOf(7), "the greatest link": freeOf(math.MaxUint32), "in use": freeOf(6),
		} {
			tx := having(t, with(pages, last, p)...)
			for n := len(free) + 1; n <= 17; n++ {
				refuses(t, "a free page leads to "+what, tx, put(needing(n)), api.ErrBad)
			}
			payload := payloadOf(40+240*len(free), 4)
			puts(t, tx, payload, stubOf(payload, free[0]))
			holds(t, tx, stubOf(payload, free[0]), payload, free...)
		}
		for _, p := range []api.Page{used(1), raw(0, 0, "c"), raw(5, 0), raw(5, 0, "c"), loose, {0: 6}} {
			tx := having(t, with(pages, last, p)...)
			for n := len(free); n <= 17; n++ {
				refuses(t, "a free page that is none", tx, put(needing(n)), api.ErrBad)
			}
			if n := len(free) - 1; n > 0 {
				payload := payloadOf(40+240*n, 4)
				puts(t, tx, payload, stubOf(payload, free[0]))
				holds(t, tx, stubOf(payload, free[0]), payload, free[:n]...)
			}
		}
	}
	for _, link := range []uint32{1, 7, 4097, math.MaxUint32} {
		tx := having(t, with(database(6), 1, firstPage(link))...)
		refuses(t, "the first page leads nowhere", tx, put(payloadOf(41, 0)), api.ErrBad)
	}
}

// TestP111Full: a database that has no room for the whole chain has nothing taken.
func TestP111Full(t *testing.T) {
	for _, missing := range []int{0, 1, 2, 16, 17} { // how many pages can come yet
		for _, free := range [][]int{nil, {9}, {9, 4000}, upTo(100, 116)} {
			pages := database(api.MaxPages-missing, free...)
			tx := having(t, pages...)
			room := min(missing+len(free), 17)
			for n := room + 1; n <= 17; n++ {
				refuses(t, "no room", tx, put(needing(n)), api.ErrFull)
			}
			frees(t, "no room", tx, free...)
			numbers := append(slices.Clone(free), upTo(api.MaxPages-missing+1, api.MaxPages)...)[:room]
			payload := payloadOf(min(40+240*room, 4000), 5)
			first := 0
			if room > 0 {
				first = numbers[0]
			}
			puts(t, tx, payload, stubOf(payload, first))
			holds(t, tx, stubOf(payload, first), payload, numbers...)
		}
	}
	tx := having(t, with(database(api.MaxPages), 1, used(1))...)
	refuses(t, "no room, and not laid", tx, put(payloadOf(41, 0)), api.ErrBad)
	tx = having(t, with(database(api.MaxPages, 9), 9, freeOf(9))...)
	refuses(t, "no room, and in a circle", tx, put(payloadOf(281, 0)), api.ErrBad)
	refuses(t, "no room, and too long", tx, put(payloadOf(4001, 0)), api.ErrLong)
}

// TestP111Savepoints: those that there are stay, whether a payload is put or refused, and no other one comes.
func TestP111Savepoints(t *testing.T) {
	tx := having(t, database(api.MaxPages-1)...)
	for n := 1; n <= 3; n++ {
		was := seen(t, tx)
		save, e := tx.Save()
		want(t, "Save", e, api.OK)
		if save != n {
			t.Fatalf("savepoint %d, not %d", save, n)
		}
		if _, e := spill.Put(tx, payloadOf(281, 0)); e != api.ErrFull {
			t.Fatal(e)
		}
		payload := payloadOf(280, n)
		stub := stubOf(payload, api.MaxPages)
		puts(t, tx, payload, stub)
		refused, e := spill.Put(tx, payloadOf(41, 0))
		if refused != "" || e != api.ErrFull {
			t.Fatalf("%q %v", refused, e)
		}
		want(t, "Back", tx.Back(n), api.OK)
		sees(t, "taken back", tx, was...)
		puts(t, tx, payload, stub)
		drops(t, tx, stub)
	}
	want(t, "Release", tx.Release(4), api.ErrNone)
	want(t, "Release", tx.Release(3), api.OK)
}
