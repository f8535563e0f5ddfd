package spill

import (
	"bureau/api"
	"bureau/record"
)

const (
	maxHead  = 40 // bytes of a payload that stay in its stub
	linkSize = 4  // bytes of the number of the chain's first page
)

// stub is the parts of a payload's stub.
type stub struct {
	length int    // how many bytes the payload has
	head   string // the first ones of them
	first  int    // the chain's first page, 0 if there is no chain
}

// cut is the stub of a payload whose chain is not laid yet, and what the chain is to hold.
func cut(payload string) (stub, string) {
	head := min(len(payload), maxHead)
	return stub{length: len(payload), head: payload[:head]}, payload[head:]
}

// behind is how many bytes the chain holds.
func (s stub) behind() int { return s.length - len(s.head) }

func (s stub) text() string {
	text := record.PutVarint(uint64(s.length)) + s.head
	if s.behind() > 0 {
		text += string([]byte{byte(s.first >> 24), byte(s.first >> 16), byte(s.first >> 8), byte(s.first)})
	}
	return text
}

// read takes the stub apart with which a text begins, and tells how many bytes it has.
func read(text string) (stub, int, api.Errno) {
	length, at, e := record.Varint(text)
	if e != api.OK || length > api.MaxRecord {
		return stub{}, 0, api.ErrBad
	}
	s := stub{length: int(length)}
	end := at + min(s.length, maxHead)
	size := end
	if s.length > maxHead {
		size += linkSize
	}
	if len(text) < size {
		return stub{}, 0, api.ErrBad
	}
	s.head = text[at:end]
	for i := end; i < size; i++ {
		s.first = s.first<<8 | int(text[i])
	}
	return s, size, api.OK
}
