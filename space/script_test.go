package space_test

import (
	"math/rand"
	"slices"
	"testing"

	"bureau/api"
	"bureau/disk"
	"bureau/space"
	"bureau/store"
)

// model is a database as the chapter's words have it: lists, and no pages.
type model struct {
	count   int
	free    []int // the one that is taken next first
	numbers [8]uint32
}

func (m model) copy() model {
	m.free = slices.Clone(m.free)
	return m
}

// busy is the pages that are taken.
func (m model) busy() []int {
	var pages []int
	for n := 2; n <= m.count; n++ {
		if !slices.Contains(m.free, n) {
			pages = append(pages, n)
		}
	}
	return pages
}

// desk is a model beside a transaction.
type desk struct {
	t         *testing.T
	r         *rand.Rand
	store     *store.Store
	tx        *store.Tx
	model     model
	committed model
	saves     []model
}

func (d *desk) take() {
	wanted := d.model.count + 1
	if len(d.model.free) > 0 {
		wanted = d.model.free[0]
		d.model.free = d.model.free[1:]
	} else {
		d.model.count++
	}
	takes(d.t, d.tx, wanted)
	if d.r.Intn(2) == 0 { // some of the pages that are given are of the form of a free one
		want(d.t, "Put", d.tx.Put(wanted, used(wanted)), api.OK)
	}
}

func (d *desk) give() {
	busy := d.model.busy()
	if len(busy) == 0 {
		return
	}
	n := busy[d.r.Intn(len(busy))]
	gives(d.t, d.tx, n)
	d.model.free = append([]int{n}, d.model.free...)
}

func (d *desk) set() {
	i, n := d.r.Intn(8), d.r.Uint32()
	want(d.t, "Set", space.Set(d.tx, i, n), api.OK)
	d.model.numbers[i] = n
}

func (d *desk) save() {
	n, e := d.tx.Save()
	want(d.t, "Save", e, api.OK)
	d.saves = append(d.saves, d.model.copy())
	if n != len(d.saves) {
		d.t.Fatalf("savepoint %d, not %d", n, len(d.saves))
	}
}

func (d *desk) back() {
	if len(d.saves) == 0 {
		return
	}
	n := 1 + d.r.Intn(len(d.saves))
	want(d.t, "Back", d.tx.Back(n), api.OK)
	d.saves = d.saves[:n]
	d.model = d.saves[n-1].copy()
}

func (d *desk) end() {
	if d.r.Intn(3) == 0 {
		want(d.t, "Rollback", d.tx.Rollback(), api.OK)
		d.model = d.committed.copy()
	} else {
		want(d.t, "Commit", d.tx.Commit(), api.OK)
		d.committed = d.model.copy()
	}
	d.saves = nil
	d.tx = writing(d.t, d.store)
}

// held fails the test unless the transaction has what the model has.
func (d *desk) held(what string) {
	d.t.Helper()
	if d.tx.Count() != d.model.count {
		d.t.Fatalf("%s: %d pages, not %d", what, d.tx.Count(), d.model.count)
	}
	frees(d.t, what, d.tx, d.model.free...)
	numbersAre(d.t, what, d.tx, d.model.numbers)
}

// TestP104Scripts: pages taken and given, numbers set, savepoints between, held against lists.
func TestP104Scripts(t *testing.T) {
	eachWay(t, func(t *testing.T, log bool) {
		for seed := range int64(30) {
			d := &desk{t: t, r: rand.New(rand.NewSource(seed)), store: opened(t, disk.New(plenty), log)}
			d.tx = writing(t, d.store)
			want(t, "Lay", space.Lay(d.tx), api.OK)
			d.model.count = 1
			want(t, "Commit", d.tx.Commit(), api.OK)
			d.committed = d.model.copy()
			d.tx = writing(t, d.store)
			for range 250 {
				switch n := d.r.Intn(40); {
				case n < 16:
					d.take()
				case n < 30:
					d.give()
				case n < 33:
					d.set()
				case n < 36:
					d.save()
				case n < 38:
					d.back()
				case n < 39:
					d.end()
				}
				d.held("a script")
			}
		}
	})
}

// TestP104LastGivenFirst: what was given is taken again, the last given first, ahead of a new page; none twice.
func TestP104LastGivenFirst(t *testing.T) {
	eachWay(t, func(t *testing.T, log bool) {
		_, tx := laid(t, log, 60)
		order := rand.New(rand.NewSource(1)).Perm(60)
		for _, i := range order {
			gives(t, tx, i+2)
		}
		for _, i := range slices.Backward(order) {
			takes(t, tx, i+2)
		}
		takes(t, tx, 62)
	})
}

// TestP104Savepoints: numbers and free pages go back with a savepoint, and on from there.
func TestP104Savepoints(t *testing.T) {
	eachWay(t, func(t *testing.T, log bool) {
		s, tx := laid(t, log, 3)
		gives(t, tx, 3)
		want(t, "Set", space.Set(tx, 1, 9), api.OK)
		was := seen(t, tx)
		save, e := tx.Save()
		want(t, "Save", e, api.OK)
		takes(t, tx, 3)
		takes(t, tx, 5)
		gives(t, tx, 2, 4)
		want(t, "Set", space.Set(tx, 1, 10), api.OK)
		want(t, "Back", tx.Back(save), api.OK)
		sees(t, "taken back", tx, was...)
		frees(t, "taken back", tx, 3)
		numbersAre(t, "taken back", tx, [8]uint32{1: 9})
		takes(t, tx, 3)
		takes(t, tx, 5)
		want(t, "Rollback", tx.Rollback(), api.OK)
		tx = writing(t, s)
		refuses(t, "all taken back", tx, isLaid(), api.ErrBad)
		want(t, "Lay", space.Lay(tx), api.OK)
	})
}
