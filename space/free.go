package space

import (
	"bureau/api"
	"bureau/page"
	"bureau/store"
)

// free is the fields of a free page: its number, and that of the next one.
type free struct {
	n    int
	link uint32
}

// end tells that there was no free page to meet.
func (m free) end() bool { return m.n == 0 }

// mayBeFree tells whether a page can be given: the first one cannot.
func mayBeFree(n, count int) bool { return n >= 2 && n <= count }

func freePage(link uint32) api.Page {
	p, _ := page.New(api.PageFree, link) // a page without cells is never refused
	return p
}

// freeLink is the link of a page that has the form of a free one, of which there is just one for each link.
func freeLink(p api.Page) (uint32, bool) {
	link := page.Link(p)
	return link, p == freePage(link)
}

// meeting is a closure that goes from free page to free page, beginning with a link. It counts them: when it has met more than there can be, it goes in a circle.
func meeting(t *store.Tx, link uint32) func() (free, api.Errno) {
	count, met := t.Count(), 1 // page 1 is none of them
	return func() (free, api.Errno) {
		if link == 0 {
			return free{}, api.OK
		}
		n := int(link)
		if met == count || !mayBeFree(n, count) {
			return free{}, api.ErrBad
		}
		met++
		p, e := t.Page(n)
		if e != api.OK {
			return free{}, api.ErrBad
		}
		next, is := freeLink(p)
		if !is {
			return free{}, api.ErrBad
		}
		link = next
		return free{n, next}, api.OK
	}
}

// lift takes page n out of its place among the free pages, if it is one of them: given once more, it would be met twice. Only a page that looks like a free one is searched for, so that giving others does not get slower with how many are free.
func lift(t *store.Tx, f *first, n int) api.Errno {
	p, e := t.Page(n)
	if _, is := freeLink(p); e != api.OK || !is {
		return api.OK
	}
	var last free
	for next := meeting(t, f.link); ; {
		m, e := next()
		switch {
		case e != api.OK || m.end(): // free pages that are not in order are no error of Give's
			return api.OK
		case m.n == n && last.end():
			f.link = m.link
			return api.OK
		case m.n == n:
			return t.Put(last.n, freePage(m.link))
		}
		last = m
	}
}
