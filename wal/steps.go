package wal

import (
	"maps"
	"slices"

	"bureau/api"
	"bureau/disk"
)

// step is one thing that is done on the disk, and may be refused.
type step func() api.Errno

// do makes the steps, one behind the other, till one is refused.
func do(steps []step) api.Errno {
	for _, s := range steps {
		if e := s(); e != api.OK {
			return e
		}
	}
	return api.OK
}

// grow is the steps that lay frames behind those that count, and, when they are synced, make them count.
func (l log) grow(frames []frame) []step {
	steps := l.renewHead()
	for i, f := range frames {
		steps = append(steps, l.put(logFile, frameStart(l.last+1+i), layFrame(f)))
	}
	return append(steps,
		l.sync(logFile),
		l.putHead(l.last+len(frames)),
		l.sync(logFile),
	)
}

// bringHome is the steps that make db the database of a mark, with that count; the frames of the last mark need not count behind them.
func (l log) bringHome(mark, count int) []step {
	steps := l.renewHead()
	pages := l.pages(mark)
	for _, n := range slices.Sorted(maps.Keys(pages)) {
		if n < 1 || n > count {
			continue
		}
		p := pages[n].P
		steps = append(steps, l.put(dbFile, api.PageSize*(n-1), string(p[:])))
	}
	steps = append(steps, l.cut(dbFile, api.PageSize*count), l.sync(dbFile))
	if mark == l.last {
		steps = append(steps, l.putHead(0), l.sync(logFile))
	}
	return steps
}

// renewHead is the steps that write the head anew as it is: one that a crash had torn might say neither the old nor the new if the next one were torn over it.
func (l log) renewHead() []step {
	return []step{l.putHead(l.last), l.sync(logFile)}
}

// putHead is the step that writes the head: so many frames count.
func (l log) putHead(frames int) step {
	sector := disk.Seal(api.Words{uint32(frames)})
	return l.put(logFile, 0, string(sector[:]))
}

// put is the step that writes data into a file; a log that would be too long for one counts as a full disk.
func (l log) put(name string, at int, data string) step {
	return func() api.Errno {
		e := l.Write(name, at, data)
		if e == api.ErrLong {
			return api.ErrFull
		}
		return e
	}
}

// cut is the step that gives a file n bytes.
func (l log) cut(name string, n int) step {
	return func() api.Errno { return l.Truncate(name, n) }
}

// sync is the step that keeps what is seen of a file.
func (l log) sync(name string) step {
	return func() api.Errno { return l.Sync(name) }
}
