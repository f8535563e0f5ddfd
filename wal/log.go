package wal

import (
	"iter"

	"bureau/api"
	"bureau/disk"
	"bureau/journal"
)

// The files' names.
const (
	dbFile  = "db"
	logFile = "wal"
)

// log is what counts of the file wal, as it was when it was read, and the disk on which it lies.
type log struct {
	*disk.Disk
	text string // the frames' bytes
	last int    // how many frames count; the last one ends a commit, so this is the last mark
}

// open reads the log of a disk.
func open(d *disk.Disk) (log, api.Errno) {
	head, e := readHead(d)
	if e != api.OK {
		return log{}, e
	}
	if head[0] > api.MaxFile/frameSize || head[1] != 0 || head[2] != 0 || head[3] != 0 {
		return log{}, api.ErrBad
	}
	l := log{Disk: d, last: int(head[0])}
	l.text, _ = d.Read(logFile, frameStart(1), frameSize*l.last)
	if !l.whole() {
		return log{}, api.ErrBad
	}
	return l, api.OK
}

// readHead is what the log's head says; zeros of a file that is too short for one.
func readHead(d *disk.Disk) (api.Words, api.Errno) {
	s, e := d.Read(logFile, 0, api.SectorSize)
	if e != api.OK || len(s) < api.SectorSize {
		return api.Words{}, e
	}
	var sector api.Sector
	copy(sector[:], s)
	return disk.Open(sector), api.OK
}

// whole tells whether the frames that count are all there, and are such as commits make.
func (l log) whole() bool {
	if len(l.text) < frameSize*l.last {
		return false
	}
	ended := true
	for _, f := range l.frames(l.last) {
		if !f.mayBe() {
			return false
		}
		ended = f.ends()
	}
	return ended
}

// frames goes over the frames up to a mark, each with its number.
func (l log) frames(mark int) iter.Seq2[int, frame] {
	return func(yield func(int, frame) bool) {
		for k := 1; k <= mark; k++ {
			if !yield(k, l.frame(k)) {
				return
			}
		}
	}
}

// frame is the frame with that number.
func (l log) frame(k int) frame {
	at := frameSize * (k - 1)
	return readFrame(l.text[at : at+frameSize])
}

// marks is all marks, rising.
func (l log) marks() []int {
	marks := []int{0}
	for k, f := range l.frames(l.last) {
		if f.ends() {
			marks = append(marks, k)
		}
	}
	return marks
}

// count is how many pages there are at a mark; false, if it is none.
func (l log) count(mark int) (int, bool) {
	if mark == 0 {
		return journal.Count(l.Disk), true
	}
	if mark < 0 || mark > l.last {
		return 0, false
	}
	f := l.frame(mark)
	if !f.ends() {
		return 0, false
	}
	return int(f.end) - 1, true
}

// page is a page at a mark: of a page that db does not have as a whole journal.Page tells the zeros that are asked for.
func (l log) page(mark, n int) api.Page {
	p, _ := journal.Page(l.Disk, n)
	for _, f := range l.frames(mark) {
		if f.N == n {
			p = f.P
		}
	}
	return p
}

// pages is the frames up to a mark that tell a page's bytes there, by their pages' numbers.
func (l log) pages(mark int) map[int]frame {
	pages := map[int]frame{}
	for _, f := range l.frames(mark) {
		pages[f.N] = f
	}
	return pages
}
