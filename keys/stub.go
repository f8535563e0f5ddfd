package keys

import (
	"bureau/api"
	"bureau/record"
	"bureau/spill"
)

// keyOf is the key of which a text is the stub, with nothing behind it.
func (p pages) keyOf(stub string) []api.Value {
	payload, size, e := spill.Get(p.tx, stub)
	mustBe(e)
	must(size == len(stub))
	key, e := record.Decode(payload)
	mustBe(e)
	return key
}

// chain is the pages of a stub's chain.
func (p pages) chain(stub string) []int {
	numbers, e := spill.Pages(p.tx, stub)
	mustBe(e)
	return numbers
}

// stubOf puts a key's record away, and is its stub.
func (p pages) stubOf(key []api.Value) string {
	payload, e := record.Encode(key)
	mustBe(e)
	stub, e := spill.Put(p.tx, payload)
	mustBe(e)
	return stub
}

// dropChain gives back the chain of a cell that goes.
func (p pages) dropChain(c cell) { mustBe(spill.Drop(p.tx, c.stub)) }
