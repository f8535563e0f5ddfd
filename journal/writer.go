package journal

import (
	"bureau/api"
	"bureau/disk"
)

// writer is a disk whose db is changed by way of its journal.
type writer struct {
	*disk.Disk
}

// step is one thing that is done on the disk, and may be refused.
type step func() api.Errno

// do makes the steps, one behind the other, till one is refused.
func do(steps []step) api.Errno {
	for _, s := range steps {
		if e := s(); e != api.OK {
			return e
		}
	}
	return api.OK
}

// layAside is the steps that keep, and sync, what a commit changes or cuts off, while db is as it was.
func (w writer) layAside(count int, pages []api.PageAt) []step {
	old := Count(w.Disk)
	numbers := touched(old, count, pages)
	steps := w.renewHead()
	for k, n := range numbers {
		record := layRecord(api.PageAt{N: n, P: w.page(n)})
		steps = append(steps, w.put(journalFile, recordStart(k), record))
	}
	return append(steps,
		w.sync(journalFile),
		w.putHead(api.Words{recordsAnd1: uint32(len(numbers) + 1), countBefore: uint32(old)}),
		w.sync(journalFile),
	)
}

// touched is the numbers of the pages of db that a commit changes or cuts off, rising.
func touched(old, count int, pages []api.PageAt) []int {
	var numbers []int
	for _, p := range pages {
		if p.N <= old {
			numbers = append(numbers, p.N)
		}
	}
	for n := count + 1; n <= old; n++ {
		numbers = append(numbers, n)
	}
	return numbers
}

// change is the steps that make db have count pages, these among them, and the journal cold.
func (w writer) change(count int, pages []api.PageAt) []step {
	var steps []step
	for _, p := range pages {
		steps = append(steps, w.put(dbFile, pageStart(p.N), string(p.P[:])))
	}
	return append(steps,
		w.cut(dbFile, pageStart(count+1)),
		w.sync(dbFile),
		w.putHead(api.Words{}),
		w.sync(journalFile),
	)
}

// takeBack makes db what a hot journal keeps of it.
func (w writer) takeBack() api.Errno {
	count, pages, ok := w.kept()
	if !ok {
		return api.ErrBad
	}
	return do(append(w.renewHead(), w.change(count, pages)...))
}

// kept is the count that is to be again and the pages of a hot journal; false of one that is not laid as it should be.
func (w writer) kept() (int, []api.PageAt, bool) {
	head := w.head()
	if head[recordsAnd1] > api.MaxPages+1 || head[countBefore] > api.MaxPages || head[2] != 0 || head[3] != 0 {
		return 0, nil, false
	}
	records, count := int(head[recordsAnd1])-1, int(head[countBefore])
	var pages []api.PageAt
	last := 0
	for k := range records {
		s, _ := w.Read(journalFile, recordStart(k), recordSize)
		p, ok := readRecord(s)
		if !ok || p.N <= last || p.N > count {
			return 0, nil, false
		}
		pages = append(pages, p)
		last = p.N
	}
	return count, pages, true
}

// refusal says why nothing at all can be done with the disk.
func (w writer) refusal() api.Errno {
	_, e := w.Read(journalFile, 0, 0)
	return e
}

// page is a page that db has.
func (w writer) page(n int) api.Page {
	var p api.Page
	s, _ := w.Read(dbFile, pageStart(n), api.PageSize)
	copy(p[:], s)
	return p
}

// head is what the journal's head says; zeros of a file that is too short for one.
func (w writer) head() api.Words {
	s, _ := w.Read(journalFile, 0, api.SectorSize)
	if len(s) < api.SectorSize {
		return api.Words{}
	}
	var sector api.Sector
	copy(sector[:], s)
	return disk.Open(sector)
}

// renewHead is the steps that write the head anew as it is: one that a crash had torn might say neither the old nor the new if the next one were torn over it.
func (w writer) renewHead() []step {
	return []step{w.putHead(w.head()), w.sync(journalFile)}
}

// putHead is the step that writes the journal's head.
func (w writer) putHead(words api.Words) step {
	sector := disk.Seal(words)
	return w.put(journalFile, 0, string(sector[:]))
}

// put is the step that writes data into a file; a journal that would be too long for one counts as a full disk.
func (w writer) put(name string, at int, data string) step {
	return func() api.Errno {
		e := w.Write(name, at, data)
		if e == api.ErrLong {
			return api.ErrFull
		}
		return e
	}
}

// cut is the step that gives a file n bytes.
func (w writer) cut(name string, n int) step {
	return func() api.Errno { return w.Truncate(name, n) }
}

// sync is the step that keeps what is seen of a file.
func (w writer) sync(name string) step {
	return func() api.Errno { return w.Sync(name) }
}
