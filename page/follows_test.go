package page_test

import (
	"math/rand"
	"slices"
	"testing"

	"bureau/api"
	"bureau/page"
)

func TestP55SameCellsSamePage(t *testing.T) {
	// All ways to come to three cells, from any order of putting them in and with others taken out, end in the same bytes.
	want, _ := page.New(api.PageKeysIn, 9, "a", "bc", "def")
	for _, places := range [][3]int{{0, 0, 0}, {0, 0, 1}, {0, 1, 0}, {0, 1, 1}, {0, 0, 2}, {0, 1, 2}} {
		p, _ := page.New(api.PageKeysIn, 1)
		order := []int{}
		for n, i := range places {
			order = slices.Insert(order, i, n)
		}
		for n, i := range places {
			p, _ = page.Insert(p, i, []string{"a", "bc", "def"}[slices.Index(order, n)])
			p, _ = page.Insert(p, 0, long("\xff", 60))
			p, _ = page.Insert(p, page.Count(p), long("\xfe", 7))
			p, _ = page.Delete(p, 0)
			p, _ = page.Delete(p, page.Count(p)-1)
		}
		if p, e := page.SetLink(p, 9); p != want || e != api.OK {
			t.Errorf("by the places %v: % x %v", places, p, e)
		}
	}
}

func TestP55ThereAndBack(t *testing.T) {
	for _, s := range specs() {
		p := s.page()
		for i := 0; i <= len(s.cells); i++ {
			one, two, _ := page.Cut(p, i)
			if q, e := page.Join(one, two); q != p || e != api.OK {
				t.Errorf("%v: joined at %d: % x %v", s, i, q, e)
			}
			for _, cell := range some {
				longer, e := page.Insert(p, i, cell)
				if e != api.OK {
					continue
				}
				if n := page.Room(p) - page.Room(longer); n != len(cell)+1 {
					t.Errorf("%v: %q takes %d bytes", s, cell, n)
				}
				if q, e := page.Delete(longer, i); q != p || e != api.OK {
					t.Errorf("%v: %q in and out at %d: % x %v", s, cell, i, q, e)
				}
			}
		}
		again, e := page.New(page.Kind(p), page.Link(p), told(t, page.Cells(p), -1)...)
		if again != p || e != api.OK {
			t.Errorf("%v: anew: % x %v", s, again, e)
		}
	}
}

// mayBe is Check by the chapter's words: a page may be if what it says of itself lays just its bytes.
func mayBe(p api.Page) bool {
	s := spec{kind: api.PageKind(p[0]), link: uint32(p[2])<<24 | uint32(p[3])<<16 | uint32(p[4])<<8 | uint32(p[5])}
	n := int(p[1])
	if n > full {
		return false
	}
	rest := p[6+n:]
	for _, length := range p[6 : 6+n] {
		if length < 1 || length > 60 || len(rest) < int(length) {
			return false
		}
		s.cells = append(s.cells, string(rest[:length]))
		rest = rest[length:]
	}
	return s.kind <= 5 && s.page() == p
}

// TestP55AnyBytes changes bytes of pages and asks all functions: what may be tells itself and can be laid anew, whatever else is refused.
func TestP55AnyBytes(t *testing.T) {
	r := rand.New(rand.NewSource(5))
	all, taken := specs(), 0
	for range 60000 {
		p := all[r.Intn(len(all))].page()
		for range 1 + r.Intn(3) {
			p[r.Intn([]int{8, 16, 40, 256}[r.Intn(4)])] = byte(r.Intn([]int{3, 8, 64, 256}[r.Intn(4)]))
		}
		e := page.Check(p)
		if mayBe(p) != (e == api.OK) || (e != api.OK && e != api.ErrBad) {
			t.Fatalf("% x: %v", p, e)
		}
		i := r.Intn(10) - 3
		_, cellErr := page.Cell(p, i)
		_, inErr := page.Insert(p, i, "x")
		_, outErr := page.Delete(p, i)
		_, _, cutErr := page.Cut(p, i)
		_, joinErr := page.Join(p, p)
		if e == api.ErrBad {
			if !slices.Equal([]api.Errno{cellErr, inErr, outErr, cutErr, joinErr}, slices.Repeat([]api.Errno{api.ErrBad}, 5)) {
				t.Fatalf("% x: %v %v %v %v %v", p, cellErr, inErr, outErr, cutErr, joinErr)
			}
			continue
		}
		taken++
		if again, e := page.New(page.Kind(p), page.Link(p), told(t, page.Cells(p), -1)...); again != p || e != api.OK {
			t.Fatalf("% x: anew % x %v", p, again, e)
		}
	}
	if taken < 5000 || taken > 55000 {
		t.Error("of 60000 pages these may be:", taken)
	}
}

// TestP55AgainstModel changes a page and a list of cells alike, step by step.
func TestP55AgainstModel(t *testing.T) {
	r := rand.New(rand.NewSource(55))
	s := spec{kind: api.PageRows}
	p := s.page()
	fulls := 0
	for step := range 60000 {
		i := r.Intn(len(s.cells)+3) - 1
		inside := i >= 0 && i < len(s.cells)
		var q api.Page
		var e, want api.Errno
		next := s
		switch r.Intn(8) {
		default:
			cell := long(string([]byte{byte(r.Intn(256))}), r.Intn([]int{4, 20, 63}[r.Intn(3)]))
			q, e = page.Insert(p, i, cell)
			switch {
			case cell == "":
				want = api.ErrArg
			case len(cell) > 60:
				want = api.ErrLong
			case i < 0 || i > len(s.cells):
				want = api.ErrNone
			case s.size()+len(cell)+1 > full:
				want = api.ErrFull
				fulls++
			default:
				next = s.with(i, cell)
			}
		case 0, 1, 2:
			q, e = page.Delete(p, i)
			if inside {
				next = s.without(i)
			} else {
				want = api.ErrNone
			}
		case 3:
			next.link = r.Uint32()
			q, e = page.SetLink(p, next.link)
		case 4:
			var one, two api.Page
			if one, two, e = page.Cut(p, i); e == api.OK {
				q, e = page.Join(two, one)
				next = spec{s.kind, 0, slices.Concat(s.cells[i:], s.cells[:i])}
			} else if i >= 0 && i <= len(s.cells) {
				t.Fatalf("step %d: cut at %d: %v", step, i, e)
			} else {
				want = api.ErrNone
			}
		}
		if e != want {
			t.Fatalf("step %d: %v, not %v", step, e, want)
		}
		if e != api.OK {
			refused(t, "refused", q, e, want)
			continue
		}
		if s, p = next, q; p != s.page() {
			t.Fatalf("step %d: % x of %v", step, p, s)
		}
	}
	if fulls < 500 {
		t.Error("so few steps met a full page:", fulls)
	}
}
