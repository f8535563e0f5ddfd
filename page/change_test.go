package page_test

import (
	"math"
	"slices"
	"testing"

	"bureau/api"
	"bureau/page"
)

// some are cells of all sorts that may be.
var some = []string{"x", "\x00", "xyz", "\xff\x00", long("i", 59), long("i", 60)}

// refused reports an answer that is not just this error.
func refused(t *testing.T, what string, p api.Page, e, want api.Errno) {
	t.Helper()
	if e != want || p != (api.Page{}) {
		t.Errorf("%s: % x %v, not %v", what, p, e, want)
	}
}

func TestP53Insert(t *testing.T) {
	for _, s := range specs() {
		p := s.page()
		for _, cell := range some {
			for i := 0; i <= len(s.cells); i++ {
				q, e := page.Insert(p, i, cell)
				if longer := s.with(i, cell); longer.size() > full {
					refused(t, "no room", q, e, api.ErrFull)
				} else if q != longer.page() || e != api.OK {
					t.Errorf("%v: %q at %d: % x %v", s, cell, i, q, e)
				}
			}
		}
		if p != s.page() {
			t.Error("the page that was handed in is changed")
		}
	}
}

func TestP53InsertRoom(t *testing.T) {
	for n := 1; n <= api.MaxCell; n++ {
		// A page that has just room for the cell and its length: 3 cells of 60, and the rest.
		room := spec{api.PageRowsIn, 5, slices.Repeat([]string{long("r", 60)}, 3)}
		rest := full - room.size() - (n + 1)
		if rest > 61 {
			room = room.with(1, long("r", rest-2-20)).with(0, long("r", 20))
		} else if rest > 0 {
			room = room.with(2, long("r", rest-1))
		}
		p := room.page()
		if page.Room(p) != n+1 {
			t.Fatalf("room of %d: %d", n, page.Room(p))
		}
		for i := range len(room.cells) + 1 {
			if q, e := page.Insert(p, i, long("n", n)); e != api.OK || q != room.with(i, long("n", n)).page() || page.Room(q) != 0 {
				t.Errorf("%d bytes that just fit: %v", n, e)
			}
			if n < api.MaxCell {
				q, e := page.Insert(p, i, long("n", n+1))
				refused(t, "one byte too few", q, e, api.ErrFull)
			}
		}
	}
	q, e := page.Insert(spec{cells: ones(125)}.page(), 125, "x")
	refused(t, "no room left", q, e, api.ErrFull)
	one := spec{cells: append(ones(123), "ab")}
	q, e = page.Insert(one.page(), 0, "x")
	refused(t, "room of one byte", q, e, api.ErrFull)
}

func TestP53InsertRefuses(t *testing.T) {
	tooLong := long("l", 61)
	none, filled := spec{1, 7, []string{"ab", "c"}}.page(), spec{1, 7, ones(125)}.page()
	for name, p := range bad() {
		for _, cell := range []string{"", "x", tooLong} {
			for _, i := range []int{0, 1, -1, 300, math.MaxInt} {
				q, e := page.Insert(p, i, cell)
				refused(t, name, q, e, api.ErrBad)
			}
		}
	}
	for _, p := range []api.Page{{}, none, filled} {
		for _, i := range append([]int{0, 1}, far...) {
			q, e := page.Insert(p, i, "")
			refused(t, "an empty cell", q, e, api.ErrArg)
			for _, n := range []int{61, 62, 255, 256, 257, 5000} {
				q, e = page.Insert(p, i, long("l", n))
				refused(t, "a long cell", q, e, api.ErrLong)
			}
		}
		for _, i := range append([]int{page.Count(p) + 1, page.Count(p) + 2}, far...) {
			for _, cell := range some {
				q, e := page.Insert(p, i, cell)
				refused(t, "no such place", q, e, api.ErrNone)
			}
		}
	}
}

func TestP53Delete(t *testing.T) {
	for _, s := range specs() {
		p := s.page()
		for i := range s.cells {
			if q, e := page.Delete(p, i); q != s.without(i).page() || e != api.OK {
				t.Errorf("%v without %d: % x %v", s, i, q, e)
			}
		}
		for _, i := range append([]int{len(s.cells), len(s.cells) + 1}, far...) {
			q, e := page.Delete(p, i)
			refused(t, "no such cell", q, e, api.ErrNone)
		}
		if p != s.page() {
			t.Error("the page that was handed in is changed")
		}
	}
	for name, p := range bad() {
		for _, i := range []int{0, 1, -1, 2, math.MinInt, math.MaxInt} {
			q, e := page.Delete(p, i)
			refused(t, name, q, e, api.ErrBad)
		}
	}
}

func TestP53SetLink(t *testing.T) {
	for _, s := range specs() {
		p := s.page()
		for _, link := range links {
			if q, e := page.SetLink(p, link); q != (spec{s.kind, link, s.cells}).page() || e != api.OK || page.Link(q) != link {
				t.Errorf("%v with %x: % x %v", s, link, q, e)
			}
		}
		if p != s.page() {
			t.Error("the page that was handed in is changed")
		}
	}
	for name, p := range bad() {
		q, e := page.SetLink(p, 1)
		refused(t, name, q, e, api.ErrBad)
	}
}

func TestP54Cut(t *testing.T) {
	for _, s := range specs() {
		p := s.page()
		for n := 0; n <= len(s.cells); n++ {
			one, two, e := page.Cut(p, n)
			if one != (spec{s.kind, 0, s.cells[:n]}).page() || two != (spec{s.kind, s.link, s.cells[n:]}).page() || e != api.OK {
				t.Errorf("%v at %d: % x, % x %v", s, n, one, two, e)
			}
		}
		for _, n := range append([]int{len(s.cells) + 1, len(s.cells) + 2}, far...) {
			one, two, e := page.Cut(p, n)
			refused(t, "no such place", one, e, api.ErrNone)
			refused(t, "no such place", two, e, api.ErrNone)
		}
		if p != s.page() {
			t.Error("the page that was handed in is changed")
		}
	}
	for name, p := range bad() {
		for _, n := range []int{0, 1, -1, 2, math.MinInt, math.MaxInt} {
			one, two, e := page.Cut(p, n)
			refused(t, name, one, e, api.ErrBad)
			refused(t, name, two, e, api.ErrBad)
		}
	}
}

func TestP54Join(t *testing.T) {
	for _, s := range specs() {
		for _, other := range specs() {
			q, e := page.Join(s.page(), other.page())
			both := spec{s.kind, other.link, slices.Concat(s.cells, other.cells)}
			switch {
			case s.kind != other.kind:
				refused(t, "unlike kinds", q, e, api.ErrArg)
			case both.size() > full:
				refused(t, "no room", q, e, api.ErrFull)
			case q != both.page() || e != api.OK:
				t.Errorf("%v, %v: % x %v", s, other, q, e)
			}
		}
	}
}

func TestP54JoinRoom(t *testing.T) {
	for n := 0; n <= 125; n++ {
		p, rest := spec{api.PageKeys, 1, ones(n)}, spec{api.PageKeys, 2, ones(125 - n)}
		if q, e := page.Join(p.page(), rest.page()); e != api.OK || q != (spec{api.PageKeys, 2, ones(125)}).page() {
			t.Errorf("%d cells, and those that just fit: %v", n, e)
		}
		if n == 0 || n == 125 {
			continue
		}
		rest.cells[0] = "yz"
		q, e := page.Join(p.page(), rest.page())
		refused(t, "one byte too few", q, e, api.ErrFull)
		rest.cells[0] = "y"
		q, e = page.Join(p.page(), rest.with(0, "z").page())
		refused(t, "one cell too many", q, e, api.ErrFull)
	}
}

func TestP54JoinRefuses(t *testing.T) {
	rows := spec{api.PageRows, 7, ones(100)}.page()
	for name, p := range bad() {
		for _, may := range []api.Page{{}, rows, {5}} {
			q, e := page.Join(p, may)
			refused(t, name+" ahead", q, e, api.ErrBad)
			q, e = page.Join(may, p)
			refused(t, name+" behind", q, e, api.ErrBad)
		}
		q, e := page.Join(p, p)
		refused(t, name+" twice", q, e, api.ErrBad)
	}
	q, e := page.Join(rows, spec{api.PageKeys, 7, ones(100)}.page())
	refused(t, "unlike kinds without room", q, e, api.ErrArg)
}
