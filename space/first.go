package space

import (
	"bureau/api"
	"bureau/page"
	"bureau/store"
)

const mark = "bureau 1"

// first is the fields of the first page.
type first struct {
	link    uint32 // the first free page, 0 if there is none
	numbers [8]uint32
}

func isNumber(i int) bool { return i >= 0 && i < len(first{}.numbers) }

// mayChange is why a transaction may not be changed, as the store has it: a Shrink below 0 never changes a thing, and comes to its ErrArg only where nothing else is in the way.
func mayChange(t *store.Tx) api.Errno {
	if e := t.Shrink(-1); e != api.ErrArg {
		return e
	}
	return api.OK
}

// firstToChange is the first page of a transaction that may be changed.
func firstToChange(t *store.Tx) (first, api.Errno) {
	if e := mayChange(t); e != api.OK {
		return first{}, e
	}
	return firstOf(t)
}

// firstOf is the first page of a transaction; whatever else keeps page 1 from being read, the database is not laid then.
func firstOf(t *store.Tx) (first, api.Errno) {
	p, e := t.Page(1)
	switch e {
	case api.OK:
		return read(p)
	case api.ErrNil, api.ErrOver:
		return first{}, e
	}
	return first{}, api.ErrBad
}

// read takes the fields out of a page, if it has the form of a first one. (A page that may not be has no cells.)
func read(p api.Page) (first, api.Errno) {
	f := first{link: page.Link(p)}
	if page.Kind(p) != api.PageFree || page.Count(p) != 1+len(f.numbers) {
		return first{}, api.ErrBad
	}
	for i, cell := range page.Cells(p) {
		switch {
		case i == 0 && cell == mark:
		case i > 0 && len(cell) == 4:
			f.numbers[i-1] = number(cell)
		default:
			return first{}, api.ErrBad
		}
	}
	return f, api.OK
}

// put makes the page with those fields page 1.
func put(t *store.Tx, f first) api.Errno {
	cells := []string{mark}
	for _, n := range f.numbers {
		cells = append(cells, cellOf(n))
	}
	p, e := page.New(api.PageFree, f.link, cells...)
	if e != api.OK {
		return e
	}
	return t.Put(1, p)
}

func number(cell string) uint32 {
	var n uint32
	for i := range len(cell) {
		n = n<<8 | uint32(cell[i])
	}
	return n
}

func cellOf(n uint32) string {
	return string([]byte{byte(n >> 24), byte(n >> 16), byte(n >> 8), byte(n)})
}
