package store

import (
	"bureau/api"
	"bureau/journal"
)

// byJournal is a store whose commits change db itself: who reads holds a lock till it ends, so that what it reads stays.
type byJournal struct {
	ground
}

func (j *byJournal) log() bool { return false }

func (j *byJournal) begin(c int) (int, api.Errno) {
	// Its own lock does not stand in a connection's way: that it has a transaction is to be asked.
	if j.locks.Has(c) != api.LockNone {
		return 0, api.ErrBusy
	}
	if e := j.locks.Take(c, api.LockShared); e != api.OK {
		return 0, e
	}
	return journal.Count(j.disk), api.OK
}

func (j *byJournal) page(_, n int) (api.Page, api.Errno) { return journal.Page(j.disk, n) }

func (j *byJournal) write(c int) api.Errno { return j.locks.Take(c, api.LockReserved) }

func (j *byJournal) commit(c, count int, changed func() ([]api.PageAt, api.Errno)) api.Errno {
	if e := j.locks.Take(c, api.LockExclusive); e != api.OK {
		return e
	}
	defer j.locks.Drop(c, api.LockReserved)
	pages, e := changed()
	if e != api.OK {
		return e
	}
	return journal.Commit(j.disk, count, pages)
}

func (j *byJournal) end(c int) { j.locks.Drop(c, api.LockNone) }

func (j *byJournal) checkpoint() (bool, api.Errno) { return false, api.OK }
