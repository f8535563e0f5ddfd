// Package disk is layer 1: a stand-in disk of sectors that syncs, crashes and fills up (shared/doc/01-disk.md).
package disk

import (
	"slices"

	"bureau/api"
)

// Disk is a stand-in disk: its files, and the changes between what is seen of them and what is kept, oldest first.
type Disk struct {
	files   map[string]*entry // nil in a disk that New did not make
	changes []change
	room    int
	fuse    int // which step from now on crashes; 0: none
	steps   int
	starts  int
	down    bool
}

// New makes a disk without files that has room for so many bytes.
func New(room int) *Disk {
	return &Disk{files: map[string]*entry{}, room: max(room, 0)}
}

// Read tells the n bytes of a file from at on, or as many as there are.
func (d *Disk) Read(name string, at, n int) (string, api.Errno) {
	if e := d.refusal(); e != api.OK {
		return "", e
	}
	if at < 0 || n < 0 {
		return "", api.ErrArg
	}
	return d.seen(name).read(at, n), api.OK
}

// Write lays data into a file from at on.
func (d *Disk) Write(name string, at int, data string) api.Errno {
	if e := d.misfit(at, len(data)); e != api.OK {
		return e
	}
	if data == "" { // ahead of the room: it makes no file longer, however far out at lies
		return d.endStep()
	}
	if d.lacksRoom(name, at+len(data)) {
		return api.ErrFull
	}
	d.lay(name, at, data)
	return d.endStep()
}

// Truncate gives a file n bytes.
func (d *Disk) Truncate(name string, n int) api.Errno {
	if e := d.misfit(n, 0); e != api.OK {
		return e
	}
	if d.lacksRoom(name, n) {
		return api.ErrFull
	}
	if n != d.seen(name).size() {
		d.resize(name, n)
	}
	return d.endStep()
}

// Sync keeps what is seen of a file.
func (d *Disk) Sync(name string) api.Errno {
	if e := d.refusal(); e != api.OK {
		return e
	}
	if e := d.endStep(); e != api.OK {
		return e
	}
	d.keep(name)
	return api.OK
}

// Len tells how many bytes a file has.
func (d *Disk) Len(name string) int {
	if d.refusal() != api.OK {
		return 0
	}
	return d.seen(name).size()
}

// Names tells the files that have bytes, rising.
func (d *Disk) Names() []string {
	if d.refusal() != api.OK {
		return nil
	}
	var names []string
	for name, f := range d.files {
		if f.seen.size() > 0 {
			names = append(names, name)
		}
	}
	slices.Sort(names)
	return names
}

// SetRoom says how many bytes all files together may have from now on.
func (d *Disk) SetRoom(room int) {
	if d.made() {
		d.room = max(room, 0)
	}
}

// CrashIn lets the n-th step from now on crash; below 1 none does.
func (d *Disk) CrashIn(n int) {
	if d.made() {
		d.fuse = max(n, 0)
	}
}

// Crash takes the disk down.
func (d *Disk) Crash() {
	if d.made() {
		d.down = true
	}
}

// Down tells whether the disk has crashed and was not started again.
func (d *Disk) Down() bool { return d.made() && d.down }

// Steps tells how many steps there were since the disk was made or started again.
func (d *Disk) Steps() int {
	if !d.made() {
		return 0
	}
	return d.steps
}

// Pending tells how many changes are not kept.
func (d *Disk) Pending() int {
	if !d.made() {
		return 0
	}
	return len(d.changes)
}

// Starts tells how often the disk was started again.
func (d *Disk) Starts() int {
	if !d.made() {
		return 0
	}
	return d.starts
}

// Restart starts a disk that is down; choices say, change by change, what of it had reached the disk.
func (d *Disk) Restart(choices []int) api.Errno {
	if !d.made() {
		return api.ErrNil
	}
	if !d.down {
		return api.ErrNone
	}
	for i, c := range d.changes {
		choice := lost
		if i < len(choices) {
			choice = choices[i]
		}
		d.files[c.name].kept.take(c, choice)
	}
	for name, f := range d.files {
		f.seen.bytes = slices.Clone(f.kept.bytes)
		d.forgetEmpty(name)
	}
	d.changes, d.fuse, d.steps, d.down = nil, 0, 0, false
	d.starts++
	return api.OK
}

// Copy makes another disk, the same in all things, that goes on apart.
func (d *Disk) Copy() *Disk {
	if !d.made() {
		return nil
	}
	files := make(map[string]*entry, len(d.files))
	for name, f := range d.files {
		files[name] = f.clone()
	}
	other := *d
	other.files = files
	other.changes = slices.Clone(d.changes)
	return &other
}

// made tells a disk of New from a nil or a zero one.
func (d *Disk) made() bool { return d != nil && d.files != nil }

// refusal says why no call can be done, whatever it asks for.
func (d *Disk) refusal() api.Errno {
	if !d.made() {
		return api.ErrNil
	}
	if d.down {
		return api.ErrOver
	}
	return api.OK
}

// misfit says why n bytes from at on can lie in no file, however much room there is.
func (d *Disk) misfit(at, n int) api.Errno {
	if e := d.refusal(); e != api.OK {
		return e
	}
	if at < 0 {
		return api.ErrArg
	}
	if at > api.MaxFile-n { // at + n might leave the int
		return api.ErrLong
	}
	return api.OK
}

// lacksRoom tells whether a file of so many bytes would be a longer one for which there is no room.
func (d *Disk) lacksRoom(name string, size int) bool {
	more := size - d.seen(name).size()
	return more > 0 && d.used()+more > d.room
}

// used tells how many bytes all files have together.
func (d *Disk) used() int {
	sum := 0
	for _, f := range d.files {
		sum += f.seen.size()
	}
	return sum
}

// seen tells a file as it is seen; one that is not there is an empty one.
func (d *Disk) seen(name string) *seenFile {
	if f := d.files[name]; f != nil {
		return &f.seen
	}
	return &seenFile{}
}

// entry finds a file that is about to change, and makes it if it is not there.
func (d *Disk) entry(name string) *entry {
	if d.files[name] == nil {
		d.files[name] = &entry{}
	}
	return d.files[name]
}

// resize gives a file another number of bytes, as seen, and notes the change.
func (d *Disk) resize(name string, size int) {
	f := d.entry(name)
	f.seen.resize(size)
	d.changes = append(d.changes, f.seen.changer(name)(sizeOnly))
}

// lay puts data into a file, as seen, and notes the changes.
func (d *Disk) lay(name string, at int, data string) {
	f := d.entry(name)
	end := at + len(data)
	if end > f.seen.size() {
		d.resize(name, end)
	}
	f.seen.put(at, []byte(data))
	changeOf := f.seen.changer(name)
	for k := at / api.SectorSize; k*api.SectorSize < end; k++ {
		d.changes = append(d.changes, changeOf(k))
	}
}

// keep makes all changes of a file in what is kept: that is what is seen then, and costs only as much as has changed.
func (d *Disk) keep(name string) {
	for _, c := range d.changes {
		if c.name == name {
			d.files[name].kept.take(c, whole)
		}
	}
	d.changes = slices.DeleteFunc(d.changes, func(c change) bool { return c.name == name })
	d.forgetEmpty(name)
}

// forgetEmpty drops a file, of which all that is seen is kept, if it has no bytes: it is as one that is not there.
func (d *Disk) forgetEmpty(name string) {
	if d.seen(name).size() == 0 {
		delete(d.files, name)
	}
}

// endStep counts a step, and takes the disk down if it is the one that is to crash.
func (d *Disk) endStep() api.Errno {
	d.steps++
	if d.fuse == 0 {
		return api.OK
	}
	d.fuse--
	if d.fuse > 0 {
		return api.OK
	}
	d.down = true
	return api.ErrOver
}
