package check

// The form of a first page, as layer 10 has it.
const (
	mark       = "bureau 1"
	numbers    = 8
	numberSize = 4 // bytes of each
)

// free meets the first page and the free ones, and is the latter's numbers.
func (d database) free() []int {
	first := d.meet(1, asFirst)
	must(isFirst(first.cells))
	var free []int
	for n := first.link; n != 0; {
		x := d.meet(n, asFree)
		must(len(x.cells) == 0)
		free = append(free, n)
		n = x.link
	}
	return free
}

// isFirst tells whether those are the cells of a first page.
func isFirst(cells []string) bool {
	if len(cells) != 1+numbers || cells[0] != mark {
		return false
	}
	for _, c := range cells[1:] {
		if len(c) != numberSize {
			return false
		}
	}
	return true
}
