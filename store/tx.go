package store

import (
	"maps"
	"slices"

	"bureau/api"
)

// Tx is a transaction: the database as it was when it began, with its own changes, that nobody else sees until it commits.
type Tx struct {
	face   // its store's; none in a transaction that no call of this package made
	conn   int
	first  int // how many pages there were when it began
	now    content
	saves  []content // what its savepoints keep, the first one's first
	writes bool
	ended  bool
}

// Over tells whether it has ended, or its store is over.
func (t *Tx) Over() bool { return t.there() && (t.ended || t.over()) }

// Count is how many pages it has.
func (t *Tx) Count() int {
	n, _ := tell(t.goesOn, func() (int, api.Errno) { return t.now.count, api.OK })
	return n
}

// Page is one of its pages.
func (t *Tx) Page(n int) (api.Page, api.Errno) {
	return tell(t.goesOn, func() (api.Page, api.Errno) {
		if n < 1 || n > t.now.count {
			return api.Page{}, api.ErrNone
		}
		if p, put := t.now.put[n]; put {
			return p, api.OK
		}
		return t.page(t.conn, n)
	})
}

// Write has it write from now on.
func (t *Tx) Write() api.Errno {
	return do(t.goesOn, func() api.Errno {
		if t.writes {
			return api.OK
		}
		e := t.write(t.conn)
		t.writes = e == api.OK
		return e
	})
}

// Writes tells whether it writes; one that is over does not.
func (t *Tx) Writes() bool { return t.mayChange() == api.OK }

// Put makes p its page n, one more if n is the first one behind the end.
func (t *Tx) Put(n int, p api.Page) api.Errno {
	return do(t.mayChange, func() api.Errno {
		if n < 1 || n > t.now.count+1 {
			return api.ErrNone
		}
		if n > api.MaxPages {
			return api.ErrFull
		}
		t.now.set(n, p)
		return api.OK
	})
}

// Shrink leaves it a count of pages.
func (t *Tx) Shrink(count int) api.Errno {
	return do(t.mayChange, func() api.Errno {
		if count < 0 || count > t.now.count {
			return api.ErrArg
		}
		t.now.cut(count)
		return api.OK
	})
}

// Commit ends it, and makes what it has the database, if it writes; where that cannot be done it goes on as it was.
func (t *Tx) Commit() api.Errno {
	return do(t.goesOn, func() api.Errno {
		if t.writes {
			if e := t.commit(t.conn, t.now.count, t.changed); e != api.OK {
				return e
			}
		}
		t.leave()
		return api.OK
	})
}

// Rollback ends it, and leaves nothing of it.
func (t *Tx) Rollback() api.Errno {
	return do(t.goesOn, func() api.Errno {
		t.leave()
		return api.OK
	})
}

// changed is the pages that are other ones than when it began, rising by their numbers.
func (t *Tx) changed() ([]api.PageAt, api.Errno) {
	var pages []api.PageAt
	for _, n := range slices.Sorted(maps.Keys(t.now.put)) {
		p := t.now.put[n]
		same, e := t.was(n, p)
		if e != api.OK {
			return nil, e
		}
		if !same {
			pages = append(pages, api.PageAt{N: n, P: p})
		}
	}
	return pages, api.OK
}

// was tells whether p was the page n when it began.
func (t *Tx) was(n int, p api.Page) (bool, api.Errno) {
	if n > t.first {
		return false, api.OK
	}
	old, e := t.page(t.conn, n)
	return old == p, e
}

// leave ends it; what it had is let go.
func (t *Tx) leave() {
	t.end(t.conn)
	t.ended = true
	t.now, t.saves = content{}, nil
}
