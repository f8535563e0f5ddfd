package store

import (
	"bureau/api"
	"bureau/disk"
	"bureau/locks"
)

// face is a store as its transactions know it, each by its connection: what is done in another way by the journal than by the log is asked through it.
type face interface {
	log() bool
	over() bool
	holders(l api.Lock) []int

	// begin has c read from now on, and tells how many pages there are.
	begin(c int) (int, api.Errno)
	// page is a page as it was when c began.
	page(c, n int) (api.Page, api.Errno)
	// write has c write from now on.
	write(c int) api.Errno
	// commit makes the pages that changed tells, and a count, those of the database; they are asked for when c may commit. If it cannot be done c goes on as it was.
	commit(c, count int, changed func() ([]api.PageAt, api.Errno)) api.Errno
	// end has c read and write no more.
	end(c int)
	// checkpoint brings home what may be, and tells whether the log is empty then.
	checkpoint() (bool, api.Errno)
}

// ground is what both ways stand on.
type ground struct {
	disk   *disk.Disk
	starts int // how often the disk had been started when the store was opened
	locks  *locks.Table
}

func (g *ground) over() bool { return g.disk.Down() || g.disk.Starts() != g.starts }

func (g *ground) holders(l api.Lock) []int { return g.locks.Holders(l) }
