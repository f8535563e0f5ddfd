package spill

import (
	"iter"

	"bureau/api"
	"bureau/space"
	"bureau/store"
)

// walk makes a step with each thing, with all of them or with none: where a step is refused a savepoint takes back those ahead of it.
func walk[T any](t *store.Tx, things iter.Seq[T], step func(T) api.Errno) api.Errno {
	save, e := t.Save()
	if e != api.OK {
		return e
	}
	defer t.Release(save)
	for thing := range things {
		if e := step(thing); e != api.OK {
			t.Back(save)
			return e
		}
	}
	return api.OK
}

// taker makes a chain, page by page.
type taker struct {
	t     *store.Tx
	first int
	last  int    // the page that was taken last
	piece string // what it holds
}

// take takes a page for a piece, and links it to the one ahead. The page is laid at once, ahead of the next one's being known: so a free page that leads back to it is refused, as it leads to none that is free.
func (c *taker) take(piece string) api.Errno {
	n, e := space.Take(c.t)
	if e != api.OK {
		return e
	}
	if c.first == 0 {
		c.first = n
	} else if e := c.t.Put(c.last, pageOf(c.piece, n)); e != api.OK {
		return e
	}
	c.last, c.piece = n, piece
	return c.t.Put(n, pageOf(piece, 0))
}

// mayRead is why a transaction may not be read, mayChange why it may not be changed, as the store has it: that there is no page 0 is told only where nothing else is in the way.
func mayRead(t *store.Tx) api.Errno {
	_, e := t.Page(0)
	return unlessNone(e)
}

func mayChange(t *store.Tx) api.Errno { return unlessNone(t.Put(0, api.Page{})) }

func unlessNone(e api.Errno) api.Errno {
	if e == api.ErrNone {
		return api.OK
	}
	return e
}
