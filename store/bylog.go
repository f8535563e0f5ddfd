package store

import (
	"bureau/api"
	"bureau/wal"
)

// byLog is a store whose commits go behind the log's end: who reads holds no lock, but is known by the mark at which it reads.
type byLog struct {
	ground
	marks map[int]int // by the connections whose transactions are not over
}

func (l *byLog) log() bool { return true }

func (l *byLog) begin(c int) (int, api.Errno) {
	if _, begun := l.marks[c]; begun {
		return 0, api.ErrBusy
	}
	last, e := wal.Mark(l.disk)
	if e != api.OK {
		return 0, e
	}
	count, e := wal.Count(l.disk, last)
	if e != api.OK {
		return 0, e
	}
	l.marks[c] = last
	return count, api.OK
}

func (l *byLog) page(c, n int) (api.Page, api.Errno) { return wal.Page(l.disk, l.marks[c], n) }

func (l *byLog) write(c int) api.Errno {
	if e := l.locks.Take(c, api.LockReserved); e != api.OK {
		return e
	}
	e := l.fresh(c)
	if e != api.OK {
		l.locks.Drop(c, api.LockNone)
	}
	return e
}

// fresh tells whether nobody has committed since c began.
func (l *byLog) fresh(c int) api.Errno {
	last, e := wal.Mark(l.disk)
	if e == api.OK && last != l.marks[c] {
		return api.ErrStale
	}
	return e
}

func (l *byLog) commit(c, count int, changed func() ([]api.PageAt, api.Errno)) api.Errno {
	pages, e := changed()
	if e != api.OK {
		return e
	}
	_, e = wal.Commit(l.disk, count, pages)
	return e
}

func (l *byLog) end(c int) {
	l.locks.Drop(c, api.LockNone)
	delete(l.marks, c)
}

func (l *byLog) checkpoint() (bool, api.Errno) {
	last, e := wal.Mark(l.disk)
	if e != api.OK {
		return false, e
	}
	least := last
	for _, mark := range l.marks {
		least = min(least, mark)
	}
	if e := wal.Checkpoint(l.disk, least); e != api.OK {
		return false, e
	}
	if least < last {
		return false, api.OK
	}
	l.home()
	return true, api.OK
}

// home has all transactions read on in db: the marks are gone behind a checkpoint up to the last one, but what they read is there, at the mark 0.
func (l *byLog) home() {
	for c := range api.MaxConns {
		if _, begun := l.marks[c]; begun {
			l.marks[c] = 0
		}
	}
}
