package tree

import (
	"bureau/api"
	"bureau/spill"
)

// The form of layer 11's stubs.
const (
	maxHead  = 40   // bytes of a payload that stay in its stub
	moreBit  = 0x80 // in a length's first byte: another one comes
	lowBits  = 7    // of a length, in its second byte
	maxFirst = 1<<lowBits - 1
)

// isStub tells whether a text, which is not empty, has the form of a stub, with nothing behind it. Its chain is not looked at: a leaf is read without going along the chains of all its rows.
func isStub(text string) bool {
	length, at := int(text[0]), 1
	if length > maxFirst {
		if len(text) < 2 || text[1]&moreBit != 0 {
			return false
		}
		length, at = (length&^moreBit)<<lowBits|int(text[1]), 2
		if length <= maxFirst || length > api.MaxRecord {
			return false
		}
	}
	if length > maxHead {
		return len(text) == at+maxHead+linkSize
	}
	return len(text) == at+length
}

// payload is the data of a stub.
func (p pages) payload(stub string) string {
	data, _, e := spill.Get(p.tx, stub)
	mustBe(e)
	return data
}

// chain is the pages of a stub's chain.
func (p pages) chain(stub string) []int {
	numbers, e := spill.Pages(p.tx, stub)
	mustBe(e)
	return numbers
}

// stubOf puts data away, and is their stub.
func (p pages) stubOf(data string) string {
	stub, e := spill.Put(p.tx, data)
	mustBe(e)
	return stub
}

func (p pages) rowOf(c cell) api.RowAt { return api.RowAt{Key: c.key, Data: p.payload(c.stub)} }
