package keys_test

import (
	"slices"
	"testing"

	"bureau/api"
	"bureau/record"
	"bureau/space"
	"bureau/store"
)

// found is what a tree's bytes say, looked through by the chapter's words alone.
type found struct {
	rows   [][]api.Value
	pages  []int // of the tree
	chains []int // of its cells' chains
	far    []int // how far each leaf is from the root
}

// against holds keys against each other; nil where no orders are known.
type against func(a, b []api.Value) int

func by(order []api.Order) against {
	return func(a, b []api.Value) int { return record.Cmp(a, b, order) }
}

// looker goes through pages; what is wrong is said by the first text.
type looker struct {
	pages []api.Page
	cmp   against
	met   map[int]bool
	wrong string
}

func (l *looker) says(wrong string) found {
	if l.wrong == "" {
		l.wrong = wrong
	}
	return found{}
}

// partsOf takes a page's cells apart; false if it may not be.
func partsOf(p api.Page) (link uint32, cells []string, is bool) {
	link = uint32(p[2])<<24 | uint32(p[3])<<16 | uint32(p[4])<<8 | uint32(p[5])
	at := 6 + int(p[1])
	for i := range int(p[1]) {
		if 6+i >= len(p) || p[6+i] < 1 || p[6+i] > 60 || at+int(p[6+i]) > len(p) {
			return 0, nil, false
		}
		cells = append(cells, string(p[at:at+int(p[6+i])]))
		at += int(p[6+i])
	}
	return link, cells, p == raw(p[0], link, cells...)
}

func numberOf(b string) uint64 {
	u := uint64(0)
	for i := range len(b) {
		u = u*256 + uint64(b[i])
	}
	return u
}

// payload goes along the chain of a stub.
func (l *looker) payload(stub string) (string, []int) {
	length, head := int(stub[0]), stub[1:]
	if length >= 128 && len(stub) > 1 {
		length, head = int(stub[0]-128)*128+int(stub[1]), stub[2:]
	}
	if length > 4000 || len(stub)-len(head) != len(lengthBytes(length)) {
		l.says("a length that may not be")
		return "", nil
	}
	if length <= 40 {
		if len(head) != length {
			l.says("a stub that is none")
		}
		return head, nil
	}
	if len(head) != 44 {
		l.says("a stub that is none")
		return "", nil
	}
	n, payload, numbers := numberOf(head[40:]), head[:40], []int(nil)
	for n != 0 {
		if n == 1 || n > uint64(len(l.pages)) || l.met[int(n)] {
			l.says("a chain that leads astray")
			return "", nil
		}
		l.met[int(n)] = true
		numbers = append(numbers, int(n))
		p := l.pages[n-1]
		link, cells, is := partsOf(p)
		if !is || p[0] != 5 {
			l.says("no page of a chain")
			return "", nil
		}
		for _, c := range cells {
			payload += c
		}
		n = uint64(link)
	}
	if len(payload) != length || len(numbers) != pagesFor(length) {
		l.says("a chain of another length")
		return "", nil
	}
	for i, p := range chainOf(payload, numbers...) {
		if p != l.pages[numbers[i]-1] {
			l.says("a chain that is laid otherwise")
		}
	}
	return payload, numbers
}

// key is what a stub's payload is the record of.
func (l *looker) key(stub string) ([]api.Value, []int) {
	if stub == "" {
		l.says("a cell that is too short")
		return nil, nil
	}
	payload, numbers := l.payload(stub)
	row, e := record.Decode(payload)
	if e != api.OK {
		l.says("a payload that is no record")
	}
	return row, numbers
}

// below is all that stands below a page, which is so far from the root.
func (l *looker) below(n uint64, far int) found {
	if n < 2 || n > uint64(len(l.pages)) || l.met[int(n)] {
		return l.says("a page that is none, or is met twice")
	}
	l.met[int(n)] = true
	p := l.pages[n-1]
	link, cells, is := partsOf(p)
	switch {
	case is && p[0] == 3 && link == 0:
		return l.ofLeaf(int(n), far, cells)
	case is && p[0] == 4 && len(cells) > 0:
		return l.ofInner(int(n), far, link, cells)
	}
	return l.says("no page of a tree")
}

func (l *looker) ofLeaf(n, far int, cells []string) found {
	if len(cells) == 0 && far > 0 {
		return l.says("an empty leaf")
	}
	f := found{pages: []int{n}, far: []int{far}}
	for _, c := range cells {
		row, numbers := l.key(c)
		f.rows = append(f.rows, row)
		f.chains = append(f.chains, numbers...)
	}
	return f
}

func (l *looker) ofInner(n, far int, link uint32, cells []string) found {
	f := found{pages: []int{n}}
	var children []uint64
	var above [][]api.Value
	for _, c := range cells {
		if len(c) < 5 {
			return l.says("a cell that is too short")
		}
		row, numbers := l.key(c[4:])
		children, above = append(children, numberOf(c[:4])), append(above, row)
		f.chains = append(f.chains, numbers...)
	}
	for i, child := range append(children, uint64(link)) {
		b := l.below(child, far+1)
		for _, row := range b.rows {
			if l.cmp != nil && i < len(above) && l.cmp(row, above[i]) > 0 {
				return l.says("a key above that of the cell above")
			}
			if l.cmp != nil && i > 0 && l.cmp(row, above[i-1]) <= 0 {
				return l.says("a key not above that of the cell ahead")
			}
		}
		f.rows, f.pages = append(f.rows, b.rows...), append(f.pages, b.pages...)
		f.chains, f.far = append(f.chains, b.chains...), append(f.far, b.far...)
	}
	return f
}

// lookThrough tells what a tree holds, and what is wrong with it; without a cmp nothing is asked about how its keys stand.
func lookThrough(pages []api.Page, root int, cmp against) (found, string) {
	l := &looker{pages: pages, cmp: cmp, met: map[int]bool{}}
	f := l.below(uint64(root), 0)
	for i := range f.far {
		if f.far[i] != f.far[0] {
			l.says("leaves that are not as far from the root")
		}
	}
	for i := 1; i < len(f.rows); i++ {
		if cmp != nil && cmp(f.rows[i-1], f.rows[i]) >= 0 {
			l.says("keys that do not rise")
		}
	}
	if l.wrong != "" {
		return found{}, l.wrong
	}
	slices.Sort(f.pages)
	slices.Sort(f.chains)
	return f, ""
}

// stands ends the test unless there is such a tree with just those keys; it answers its pages and those of its chains.
func stands(t *testing.T, pages []api.Page, root int, order []api.Order, rows [][]api.Value) (own, chains []int) {
	t.Helper()
	f, wrong := lookThrough(pages, root, by(order))
	if wrong != "" {
		t.Fatalf("the tree %d: %s", root, wrong)
	}
	if !same(f.rows, rows) {
		t.Fatalf("the tree %d: %d keys, not the %d that it should have", root, len(f.rows), len(rows))
	}
	return f.pages, f.chains
}

// shared ends the test unless each page but the first one belongs to just one of the lists, or is free.
func shared(t *testing.T, tx *store.Tx, lists ...[]int) {
	t.Helper()
	free, e := space.Free(tx)
	want(t, "Free", e, api.OK)
	numbers := slices.Concat(append(lists, free)...)
	slices.Sort(numbers)
	if !slices.Equal(numbers, upTo(2, tx.Count())) {
		t.Fatalf("of %d pages these belong to something: %v", tx.Count(), numbers)
	}
}

// set is a plain set of keys: a list that rises by the orders.
type set struct {
	order []api.Order
	rows  [][]api.Value
}

// place is where a key is that is the same, or would be.
func (s *set) place(k []api.Value) (int, bool) {
	for i, row := range s.rows {
		if n := record.Cmp(row, k, s.order); n >= 0 {
			return i, n == 0
		}
	}
	return len(s.rows), false
}

// add puts a key in; false if one is there that is the same.
func (s *set) add(k []api.Value) bool {
	i, is := s.place(k)
	if !is {
		s.rows = slices.Insert(slices.Clone(s.rows), i, k)
	}
	return !is
}

// remove takes a key out; false if there is none that is the same.
func (s *set) remove(k []api.Value) bool {
	i, is := s.place(k)
	if is {
		s.rows = slices.Delete(slices.Clone(s.rows), i, i+1)
	}
	return is
}

// alone ends the test unless the database has just that tree, with those keys.
func alone(t *testing.T, tx *store.Tx, root int, s set) {
	t.Helper()
	own, chains := stands(t, seen(t, tx), root, s.order, s.rows)
	shared(t, tx, own, chains)
}
