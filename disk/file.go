package disk

import (
	"slices"

	"bureau/api"
)

// sizeOnly stands where a change has the number of its sector, if it is one of the file's number of bytes.
const sizeOnly = -1

// What became of a change in a crash; above whole a sector is torn.
const (
	lost  = 0
	whole = 1
)

// change is either that a file has size bytes now, or that its sector has these bytes now.
type change struct {
	name   string
	sector int
	size   int
	data   api.Sector
}

// file is the bytes of a file.
type file struct {
	bytes []byte
}

// size tells how many bytes the file has.
func (f *file) size() int { return len(f.bytes) }

// resize gives the file n bytes; those that are more are 0, whatever was there ahead of a shorter one.
func (f *file) resize(n int) {
	if n <= len(f.bytes) {
		f.bytes = f.bytes[:n]
		return
	}
	f.bytes = append(f.bytes, make([]byte, n-len(f.bytes))...)
}

// put lays data from at on; what would lie behind the file's end is lost.
func (f *file) put(at int, data []byte) {
	if at < len(f.bytes) {
		copy(f.bytes[at:], data)
	}
}

// seenFile is a file as reads tell it.
type seenFile struct {
	file
}

// read tells n bytes from at on, or as many as there are.
func (s *seenFile) read(at, n int) string {
	at = min(at, s.size())
	n = min(n, s.size()-at)
	return string(s.bytes[at : at+n])
}

// sector tells the sector k, with 0 behind the file's end.
func (s *seenFile) sector(k int) api.Sector {
	var data api.Sector
	copy(data[:], s.bytes[k*api.SectorSize:])
	return data
}

// changer makes the changes of the file of that name: each tells its number of bytes, or a sector, as it is seen by then.
func (s *seenFile) changer(name string) func(sector int) change {
	return func(sector int) change {
		if sector == sizeOnly {
			return change{name: name, sector: sizeOnly, size: s.size()}
		}
		return change{name: name, sector: sector, data: s.sector(sector)}
	}
}

// keptFile is a file as a crash leaves it.
type keptFile struct {
	file
}

// take makes as much of a change as the choice says.
func (k *keptFile) take(c change, choice int) {
	switch {
	case choice <= lost:
	case c.sector == sizeOnly:
		k.resize(c.size)
	default:
		k.put(c.sector*api.SectorSize, c.data[:arrived(choice)])
	}
}

// arrived tells how many bytes of a sector a choice above lost lets through.
func arrived(choice int) int {
	if choice == whole {
		return api.SectorSize
	}
	return 1 + (choice-2)%(api.SectorSize-1)
}

// entry is a file of the disk: what is seen of it, and what is kept.
type entry struct {
	seen seenFile
	kept keptFile
}

// clone makes another one, apart from this one.
func (f *entry) clone() *entry {
	other := &entry{}
	other.seen.bytes = slices.Clone(f.seen.bytes)
	other.kept.bytes = slices.Clone(f.kept.bytes)
	return other
}
