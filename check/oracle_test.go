package check_test

import (
	"cmp"
	"slices"

	"bureau/api"
	"bureau/record"
)

// thing is a row or a key.
type thing struct {
	n    int64
	data string
	key  []api.Value
}

// looker looks through pages by the chapters' words alone; what is wrong is said by the first text. It notes all pages that it meets.
type looker struct {
	pages []api.Page
	met   []int
	wrong string
}

func (l *looker) says(wrong string) {
	if l.wrong == "" {
		l.wrong = wrong
	}
}

// partsOf takes a page's cells apart; false if it may not be.
func partsOf(p api.Page) (link int, cells []string, is bool) {
	at := 6 + int(p[1])
	for i := range int(p[1]) {
		if 6+i >= len(p) || p[6+i] < 1 || p[6+i] > 60 || at+int(p[6+i]) > len(p) {
			return 0, nil, false
		}
		cells = append(cells, string(p[at:at+int(p[6+i])]))
		at += int(p[6+i])
	}
	link = int(valueOf(string(p[2:6])))
	return link, cells, p[0] <= 5 && p == raw(p[0], link, cells...)
}

func valueOf(b string) uint64 {
	u := uint64(0)
	for i := range len(b) {
		u = u*256 + uint64(b[i])
	}
	return u
}

// meet is a page that was not met yet.
func (l *looker) meet(n int) (p api.Page, link int, cells []string, is bool) {
	if n < 1 || n > len(l.pages) || slices.Contains(l.met, n) {
		l.says("a page that is none, or is met twice")
		return p, 0, nil, false
	}
	l.met = append(l.met, n)
	link, cells, is = partsOf(l.pages[n-1])
	if !is {
		l.says("a page that may not be")
	}
	return l.pages[n-1], link, cells, is
}

// free goes through the first page and the free ones.
func (l *looker) free() []int {
	p, n, cells, _ := l.meet(1)
	for i, c := range cells {
		if i == 0 && c != "bureau 1" || i > 0 && len(c) != 4 {
			l.says("no first page")
		}
	}
	if p[0] != 0 || len(cells) != 9 {
		l.says("no first page")
	}
	var free []int
	for n != 0 && l.wrong == "" {
		free = append(free, n)
		p, next, _, _ := l.meet(n)
		if p != raw(0, next) {
			l.says("no free page")
		}
		n = next
	}
	return free
}

// payload goes along the chain of a stub, and lays it anew.
func (l *looker) payload(stub string) string {
	length, head := 0, stub
	for i := range 2 {
		if i < len(stub) {
			length, head = length*128+int(stub[i]&127), stub[i+1:]
			if stub[i] < 128 {
				break
			}
		}
	}
	if length > 4000 || len(stub)-len(head) != len(lengthBytes(length)) || stub[:len(stub)-len(head)] != lengthBytes(length) {
		l.says("a length that may not be")
		return ""
	}
	if length <= 40 && len(head) == length {
		return head
	}
	if length <= 40 || len(head) != 44 {
		l.says("a stub that is none")
		return ""
	}
	payload, numbers := head[:40], []int(nil)
	for n := int(valueOf(head[40:])); n != 0 && l.wrong == ""; {
		_, link, cells, _ := l.meet(n)
		for _, c := range cells {
			payload += c
		}
		numbers = append(numbers, n)
		n = link
	}
	if l.wrong != "" || len(payload) != length || len(numbers) != pagesFor(length) {
		l.says("a chain of another length")
		return ""
	}
	for i, p := range chainOf(payload, numbers...) {
		if p != l.pages[numbers[i]-1] {
			l.says("a chain that is laid otherwise")
		}
	}
	return payload
}

// split takes a cell apart: its child, if it has one, its number or key, its data.
func (l *looker) split(c string, keys, inner bool) (int, thing) {
	child := 0
	switch {
	case !keys && inner && len(c) == 12:
		return int(valueOf(c[8:])), thing{n: int64(valueOf(c[:8]) - 1<<63)}
	case !keys && !inner && len(c) > 8:
		return 0, thing{n: int64(valueOf(c[:8]) - 1<<63), data: l.payload(c[8:])}
	case keys && inner && len(c) > 4:
		child, c = int(valueOf(c[:4])), c[4:]
	case keys && !inner:
	default:
		l.says("a cell that is too short or too long")
		return 0, thing{}
	}
	k, e := record.Decode(l.payload(c))
	if e != api.OK {
		l.says("no record")
	}
	return child, thing{key: k}
}

// tree is all that stands below a page, and how far each leaf is.
func (l *looker) tree(n, far int, r api.Root) (all []thing, fars []int) {
	p, link, cells, is := l.meet(n)
	kind := byte(1)
	if r.Keys {
		kind = 3
	}
	inner := p[0] == kind+1
	if !is || !inner && p[0] != kind || !inner && link != 0 || len(cells) == 0 && (inner || far > 0) {
		l.says("no page of a tree")
	}
	var children []int
	for _, c := range cells {
		child, x := l.split(c, r.Keys, inner)
		children, all = append(children, child), append(all, x)
	}
	if !inner || l.wrong != "" {
		return all, []int{far}
	}
	between := all
	all = nil
	for i, child := range append(children, link) {
		b, f := l.tree(child, far+1, r)
		for _, x := range b {
			if i < len(between) && l.wrong == "" && stand(x, between[i], r) > 0 {
				l.says("above the cell's")
			}
			if i > 0 && l.wrong == "" && stand(x, between[i-1], r) <= 0 {
				l.says("not above that of the cell ahead")
			}
		}
		all, fars = append(all, b...), append(fars, f...)
	}
	return all, fars
}

func stand(a, b thing, r api.Root) int {
	if r.Keys {
		return record.Cmp(a.key, b.key, r.Order)
	}
	return cmp.Compare(a.n, b.n)
}

// things is what a tree holds; nil if there is none.
func (l *looker) things(r api.Root) []thing {
	all, fars := l.tree(r.Page, 0, r)
	for _, f := range fars {
		if f != fars[0] {
			l.says("leaves that are not as far from the root")
		}
	}
	for i := 1; i < len(all) && l.wrong == ""; i++ {
		if stand(all[i-1], all[i], r) >= 0 {
			l.says("they do not rise")
		}
	}
	if l.wrong != "" {
		return nil
	}
	return all
}

// wholeBy is what Whole should answer, and why.
func wholeBy(pages []api.Page, forest []api.Root) (api.Errno, string) {
	for i, r := range forest {
		if r.Page < 1 || r.Page > len(pages) || slices.ContainsFunc(forest[:i], func(o api.Root) bool { return o.Page == r.Page }) {
			return api.ErrArg, "a root"
		}
	}
	l := &looker{pages: pages}
	l.free()
	for _, r := range forest {
		if l.wrong == "" {
			l.things(r)
		}
	}
	if l.wrong == "" && len(l.met) != len(pages) {
		l.says("pages that belong to nothing")
	}
	if l.wrong != "" {
		return api.ErrBad, l.wrong
	}
	return api.OK, ""
}

// freeBy is what Free should answer.
func freeBy(pages []api.Page) ([]int, api.Errno) {
	l := &looker{pages: pages}
	free := l.free()
	if l.wrong != "" {
		return nil, api.ErrBad
	}
	return free, api.OK
}

// treeBy is what Rows, or Keys, should answer.
func treeBy(pages []api.Page, r api.Root) (rows []api.RowAt, keys [][]api.Value, e api.Errno) {
	if r.Page < 1 || r.Page > len(pages) {
		return nil, nil, api.ErrArg
	}
	l := &looker{pages: pages}
	for _, x := range l.things(r) {
		if r.Keys {
			keys = append(keys, x.key)
		} else {
			rows = append(rows, api.RowAt{Key: x.n, Data: x.data})
		}
	}
	if l.wrong != "" {
		return nil, nil, api.ErrBad
	}
	return rows, keys, api.OK
}
