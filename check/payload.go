package check

import (
	"strings"

	"bureau/api"
	"bureau/record"
)

// The form of stubs and chains, as layer 11 has it.
const (
	headSize  = 40  // bytes of a payload that stay in its stub, at most
	pageBytes = 240 // bytes of a payload in each page of its chain but the last one
	linkSize  = 4   // bytes of a page's number in a cell
)

// payload is that of which a text is the stub, with nothing behind it; it meets the chain.
func (d database) payload(stub string) string {
	length, size, e := record.Varint(stub)
	must(e == api.OK && length <= api.MaxRecord)
	head, more := stub[size:], int(length)-headSize
	if more <= 0 {
		must(len(head) == int(length))
		return head
	}
	must(len(head) == headSize+linkSize)
	return head[:headSize] + d.chain(int(numberOf(head[headSize:])), more)
}

// chain is the bytes in the chain that begins with page n, which must be so many.
func (d database) chain(n, size int) string {
	var text strings.Builder
	for left := size; left > 0; left = size - text.Len() {
		x := d.meet(n, inChain)
		must(areFilled(x.cells, min(left, pageBytes)))
		for _, c := range x.cells {
			text.WriteString(c)
		}
		n = x.link
	}
	must(n == 0)
	return text.String()
}

// areFilled tells whether a page's cells hold so many bytes, as much of them in each cell as it takes.
func areFilled(cells []string, size int) bool {
	for _, c := range cells {
		if len(c) != min(size, api.MaxCell) {
			return false
		}
		size -= len(c)
	}
	return size == 0
}
