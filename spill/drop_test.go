package spill_test

import (
	"slices"
	"testing"

	"bureau/api"
)

// TestP113Drop: the pages are free, those of the chain first, in its order; all others are as they were.
func TestP113Drop(t *testing.T) {
	for length, numbers := range map[int][]int{0: nil, 40: nil, 41: {3}, 280: {8}, 281: {7, 3}, 600: {2, 3, 4}, 1001: {8, 3, 5, 2, 4}} {
		for _, free := range [][]int{nil, {9}, {12, 10}} {
			pages := database(12, free...)
			payload := payloadOf(length, 1)
			stub := lay(pages, payload, numbers...)
			for _, more := range []string{"", "\x00", stub} {
				tx := having(t, pages...)
				drops(t, tx, stub+more)
				frees(t, "dropped", tx, append(slices.Clone(numbers), free...)...)
				after := database(12, append(slices.Clone(numbers), free...)...)
				sees(t, "dropped", tx, after...)
			}
		}
	}
}

// TestP113Twice: a chain that was dropped is none any more; a payload without one can be dropped again.
func TestP113Twice(t *testing.T) {
	eachWay(t, func(t *testing.T, log bool) {
		s, tx := laid(t, log)
		payload := payloadOf(300, 2)
		puts(t, tx, payload, stubOf(payload, 2))
		puts(t, tx, payload, stubOf(payload, 4))
		drops(t, tx, stubOf(payload, 2))
		refusesStub(t, "dropped already", tx, stubOf(payload, 2))
		holds(t, tx, stubOf(payload, 4), payload, 4, 5)
		drops(t, tx, "\x03abc")
		drops(t, tx, "\x03abc")
		frees(t, "dropped", tx, 2, 3)
		want(t, "Commit", tx.Commit(), api.OK)
		tx = writing(t, s)
		refusesStub(t, "dropped and committed", tx, stubOf(payload, 2))
		frees(t, "committed", tx, 2, 3)
	})
}

// TestP113NotLaid: a chain cannot be given back where page 1 is no first page.
func TestP113NotLaid(t *testing.T) {
	for _, first := range []api.Page{{}, used(1), freeOf(0), raw(0, 0, "bureau 1"), {0: 77}} {
		for length, numbers := range map[int][]int{41: {3}, 281: {7, 3}, 1001: {8, 3, 5, 2, 4}} {
			pages := database(9)
			stub := lay(pages, payloadOf(length, 1), numbers...)
			tx := having(t, with(pages, 1, first)...)
			refuses(t, "not laid", tx, drop(stub), api.ErrBad)
			holds(t, tx, stub, payloadOf(length, 1), numbers...)
			drops(t, tx, "\x03abc")
		}
	}
}

// TestP113Savepoints: a chain that was dropped comes back with a savepoint, of which no other one comes.
func TestP113Savepoints(t *testing.T) {
	pages := database(9, 9)
	payload := payloadOf(700, 1)
	stub := lay(pages, payload, 4, 2, 6)
	tx := having(t, pages...)
	save, e := tx.Save()
	want(t, "Save", e, api.OK)
	drops(t, tx, stub)
	frees(t, "dropped", tx, 4, 2, 6, 9)
	want(t, "Release", tx.Release(save+1), api.ErrNone)
	want(t, "Back", tx.Back(save), api.OK)
	sees(t, "taken back", tx, pages...)
	holds(t, tx, stub, payload, 4, 2, 6)
}
