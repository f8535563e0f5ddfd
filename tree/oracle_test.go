package tree_test

import (
	"slices"
	"testing"

	"bureau/api"
	"bureau/space"
	"bureau/store"
)

// found is what a tree's bytes say, looked through by the chapter's words alone.
type found struct {
	rows   []api.RowAt
	pages  []int // of the tree
	chains []int // of its rows' chains
	far    []int // how far each leaf is from the root
}

// looker goes through pages; what is wrong is said by the first text.
type looker struct {
	pages []api.Page
	met   map[int]bool
	wrong string
}

func (l *looker) says(wrong string) found {
	if l.wrong == "" {
		l.wrong = wrong
	}
	return found{}
}

// partsOf takes a page's cells apart; false if it may not be.
func partsOf(p api.Page) (link uint32, cells []string, is bool) {
	link = uint32(p[2])<<24 | uint32(p[3])<<16 | uint32(p[4])<<8 | uint32(p[5])
	at := 6 + int(p[1])
	for i := range int(p[1]) {
		if 6+i >= len(p) || p[6+i] < 1 || p[6+i] > 60 || at+int(p[6+i]) > len(p) {
			return 0, nil, false
		}
		cells = append(cells, string(p[at:at+int(p[6+i])]))
		at += int(p[6+i])
	}
	return link, cells, p == raw(p[0], link, cells...)
}

func numberOf(b string) uint64 {
	u := uint64(0)
	for i := range len(b) {
		u = u*256 + uint64(b[i])
	}
	return u
}

// data goes along the chain of a stub.
func (l *looker) data(stub string) (string, []int) {
	length, head := int(stub[0]), stub[1:]
	if length >= 128 && len(stub) > 1 {
		length, head = int(stub[0]-128)*128+int(stub[1]), stub[2:]
	}
	if length > 4000 || len(stub)-len(head) != len(lengthBytes(length)) {
		l.says("a length that may not be")
		return "", nil
	}
	if length <= 40 {
		if len(head) != length {
			l.says("a stub that is none")
		}
		return head, nil
	}
	if len(head) != 44 {
		l.says("a stub that is none")
		return "", nil
	}
	n, data, numbers := numberOf(head[40:]), head[:40], []int(nil)
	for n != 0 {
		if n == 1 || n > uint64(len(l.pages)) || l.met[int(n)] {
			l.says("a chain that leads astray")
			return "", nil
		}
		l.met[int(n)] = true
		numbers = append(numbers, int(n))
		p := l.pages[n-1]
		link, cells, is := partsOf(p)
		if !is || p[0] != 5 {
			l.says("no page of a chain")
			return "", nil
		}
		for _, c := range cells {
			data += c
		}
		n = uint64(link)
	}
	if len(data) != length || len(numbers) != pagesFor(length) {
		l.says("a chain of another length")
		return "", nil
	}
	for i, p := range chainOf(data, numbers...) {
		if p != l.pages[numbers[i]-1] {
			l.says("a chain that is laid otherwise")
		}
	}
	return data, numbers
}

// below is all that stands below a page, which is so far from the root.
func (l *looker) below(n uint64, far int) found {
	if n < 2 || n > uint64(len(l.pages)) || l.met[int(n)] {
		return l.says("a page that is none, or is met twice")
	}
	l.met[int(n)] = true
	p := l.pages[n-1]
	link, cells, is := partsOf(p)
	switch {
	case is && p[0] == 1 && link == 0:
		return l.ofLeaf(int(n), far, cells)
	case is && p[0] == 2 && len(cells) > 0:
		return l.ofInner(int(n), far, link, cells)
	}
	return l.says("no page of a tree")
}

func (l *looker) ofLeaf(n, far int, cells []string) found {
	if len(cells) == 0 && far > 0 {
		return l.says("an empty leaf")
	}
	f := found{pages: []int{n}, far: []int{far}}
	for _, c := range cells {
		if len(c) < 9 {
			return l.says("a cell that is too short")
		}
		data, numbers := l.data(c[8:])
		f.rows = append(f.rows, api.RowAt{Key: int64(numberOf(c[:8]) ^ 1<<63), Data: data})
		f.chains = append(f.chains, numbers...)
	}
	return f
}

func (l *looker) ofInner(n, far int, link uint32, cells []string) found {
	f := found{pages: []int{n}}
	children := []uint64{}
	for _, c := range cells {
		if len(c) != 12 {
			return l.says("a cell that is too short or too long")
		}
		children = append(children, numberOf(c[8:]))
	}
	for i, child := range append(children, uint64(link)) {
		b := l.below(child, far+1)
		for _, r := range b.rows {
			if i < len(cells) && r.Key > int64(numberOf(cells[i][:8])^1<<63) {
				return l.says("a number above that of the cell above")
			}
			if i > 0 && r.Key <= int64(numberOf(cells[i-1][:8])^1<<63) {
				return l.says("a number not above that of the cell ahead")
			}
		}
		f.rows, f.pages = append(f.rows, b.rows...), append(f.pages, b.pages...)
		f.chains, f.far = append(f.chains, b.chains...), append(f.far, b.far...)
	}
	return f
}

// lookThrough tells what a tree holds, and what is wrong with it.
func lookThrough(pages []api.Page, root int) (found, string) {
	l := &looker{pages: pages, met: map[int]bool{}}
	f := l.below(uint64(root), 0)
	for i := range f.far {
		if f.far[i] != f.far[0] {
			l.says("leaves that are not as far from the root")
		}
	}
	for i := 1; i < len(f.rows); i++ {
		if f.rows[i-1].Key >= f.rows[i].Key {
			l.says("numbers that do not rise")
		}
	}
	if l.wrong != "" {
		return found{}, l.wrong
	}
	slices.Sort(f.pages)
	slices.Sort(f.chains)
	return f, ""
}

// stands ends the test unless there is such a tree with just those rows, of no more pages than P12.6 has it; it answers its pages and those of its chains.
func stands(t *testing.T, pages []api.Page, root int, rows []api.RowAt) (own, chains []int) {
	t.Helper()
	f, wrong := lookThrough(pages, root)
	if wrong != "" {
		t.Fatalf("the tree %d: %s", root, wrong)
	}
	if !slices.Equal(f.rows, rows) {
		t.Fatalf("the tree %d: %d rows, not the %d that it should have", root, len(f.rows), len(rows))
	}
	if len(f.pages) > 2*len(rows)+1 {
		t.Fatalf("the tree %d: %d pages of %d rows", root, len(f.pages), len(rows))
	}
	return f.pages, f.chains
}

// shared ends the test unless each page but the first one belongs to just one of the lists, or is free.
func shared(t *testing.T, tx *store.Tx, lists ...[]int) {
	t.Helper()
	free, e := space.Free(tx)
	want(t, "Free", e, api.OK)
	numbers := slices.Concat(append(lists, free)...)
	slices.Sort(numbers)
	if !slices.Equal(numbers, upTo(2, tx.Count())) {
		t.Fatalf("of %d pages these belong to something: %v", tx.Count(), numbers)
	}
}
