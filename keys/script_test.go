package keys_test

import (
	"math/rand"
	"slices"
	"testing"

	"bureau/api"
	"bureau/keys"
	"bureau/space"
	"bureau/spill"
	"bureau/store"
)

// plant is a tree as a plain set.
type plant struct {
	root int // 0: there is none
	set
}

// state is what a database holds: two trees, and a payload that is none of theirs. (Sets are never changed in place, so that a copy is one.)
type state struct {
	trees [2]plant
	other string // the payload's stub
}

// desk is a model beside a transaction.
type desk struct {
	t         *testing.T
	r         *rand.Rand
	store     *store.Store
	tx        *store.Tx
	now       state
	committed state
	saves     []state
	numbers   int // how many integers the keys may have
	grows     int // of ten steps with a key so many put one
	full      int // how often there was no room
}

var otherPayload = recordOf(sized(1234, 5))

// insert puts a key; where there is no room all is as it was.
func (d *desk) insert(p *plant) {
	d.t.Helper()
	k := anyKey(d.r, d.numbers)
	before := seen(d.t, d.tx)
	e := keys.Insert(d.tx, p.root, p.order, k)
	if e == api.ErrFull && d.room() < mostTaken(before, p, k) {
		sees(d.t, "full", d.tx, before...)
		d.full++
		return
	}
	wanted := api.OK
	if !p.add(k) {
		wanted = api.ErrThere
	}
	want(d.t, "Insert", e, wanted)
}

// mostTaken is how many pages an Insert can take: for the key's chain, for that of a key that goes up, for a page that is cut on each level, and for one more above them.
func mostTaken(pages []api.Page, p *plant, k []api.Value) int {
	up := chainFor(k)
	for _, row := range p.rows {
		up = max(up, chainFor(row))
	}
	return chainFor(k) + up + height(pages, p.root) + 2
}

// room is how many pages can be taken.
func (d *desk) room() int {
	d.t.Helper()
	free, e := space.Free(d.tx)
	want(d.t, "Free", e, api.OK)
	return len(free) + api.MaxPages - d.tx.Count()
}

func (d *desk) delete(p *plant) {
	d.t.Helper()
	k := anyKey(d.r, d.numbers)
	if len(p.rows) > 0 && d.r.Intn(8) > 0 {
		k = p.rows[d.r.Intn(len(p.rows))]
	}
	wanted := api.OK
	if !p.remove(k) {
		wanted = api.ErrNone
	}
	want(d.t, "Delete", keys.Delete(d.tx, p.root, p.order, k), wanted)
}

// plants makes a tree where there is none, as long as there is room.
func (d *desk) plants(p *plant) {
	d.t.Helper()
	root, e := keys.New(d.tx)
	if e == api.ErrFull && root == 0 && d.room() == 0 {
		return
	}
	want(d.t, "New", e, api.OK)
	p.root, p.rows = root, nil
}

func (d *desk) save() {
	n, e := d.tx.Save()
	want(d.t, "Save", e, api.OK)
	d.saves = append(d.saves, d.now)
	if n != len(d.saves) {
		d.t.Fatalf("savepoint %d, not %d", n, len(d.saves))
	}
}

func (d *desk) back() {
	if len(d.saves) == 0 {
		return
	}
	n := 1 + d.r.Intn(len(d.saves))
	want(d.t, "Back", d.tx.Back(n), api.OK)
	d.saves = d.saves[:n]
	d.now = d.saves[n-1]
}

func (d *desk) release() {
	if len(d.saves) == 0 {
		return
	}
	n := 1 + d.r.Intn(len(d.saves))
	want(d.t, "Release", d.tx.Release(n), api.OK)
	d.saves = d.saves[:n-1]
}

func (d *desk) end() {
	if d.r.Intn(3) == 0 {
		want(d.t, "Rollback", d.tx.Rollback(), api.OK)
		d.now = d.committed
	} else {
		want(d.t, "Commit", d.tx.Commit(), api.OK)
		d.committed = d.now
	}
	if d.r.Intn(2) == 0 {
		_, e := d.store.Checkpoint()
		want(d.t, "Checkpoint", e, api.OK)
	}
	d.saves = nil
	d.tx = writing(d.t, d.store)
}

// held ends the test unless both trees have what the sets have, and each page belongs to one thing alone.
func (d *desk) held(others ...int) {
	d.t.Helper()
	pages := seen(d.t, d.tx)
	lists := [][]int{others}
	for _, p := range d.now.trees {
		if p.root == 0 {
			continue
		}
		own, chains := stands(d.t, pages, p.root, p.order, p.rows)
		lists = append(lists, own, chains)
	}
	payload, _, e := spill.Get(d.tx, d.now.other)
	if e != api.OK || payload != otherPayload {
		d.t.Fatalf("another payload: %v", e)
	}
	numbers, e := spill.Pages(d.tx, d.now.other)
	want(d.t, "spill.Pages", e, api.OK)
	shared(d.t, d.tx, append(lists, numbers)...)
}

func (d *desk) step() {
	p := &d.now.trees[d.r.Intn(2)]
	switch n := d.r.Intn(100); {
	case n < 4:
		d.save()
	case n < 6:
		d.back()
	case n < 7:
		d.release()
	case n < 9 && d.store != nil:
		d.end()
	case p.root == 0:
		d.plants(p)
	case n < 10 && d.r.Intn(4) == 0:
		want(d.t, "Clear", keys.Clear(d.tx, p.root), api.OK)
		p.rows = nil
	case n < 11 && d.r.Intn(4) == 0:
		want(d.t, "Drop", keys.Drop(d.tx, p.root), api.OK)
		p.root, p.rows = 0, nil
	case d.r.Intn(10) < d.grows:
		d.insert(p)
	default:
		d.delete(p)
	}
}

// read holds what all calls that read tell against the sets.
func (d *desk) read() {
	d.t.Helper()
	for _, p := range d.now.trees {
		if p.root == 0 {
			continue
		}
		if got := from(d.t, d.tx, p.root, p.order, nil); !same(got, p.rows) {
			d.t.Fatalf("From: %d keys, not %d", len(got), len(p.rows))
		}
		for range 8 {
			k := anyKey(d.r, d.numbers)
			finds(d.t, d.tx, p.root, p.order, k, p.rows...)
			if len(p.rows) > 0 {
				k = p.rows[d.r.Intn(len(p.rows))]
				finds(d.t, d.tx, p.root, p.order, k, p.rows...)
				finds(d.t, d.tx, p.root, p.order, k[:d.r.Intn(len(k)+1)], p.rows...)
			}
		}
	}
}

// newDesk is a desk whose payload is put.
func newDesk(t *testing.T, seed int, s *store.Store, tx *store.Tx) *desk {
	t.Helper()
	stub, e := spill.Put(tx, otherPayload)
	want(t, "spill.Put", e, api.OK)
	d := &desk{t: t, r: rand.New(rand.NewSource(int64(seed))), store: s, tx: tx, now: state{other: stub}}
	for i := range d.now.trees {
		d.now.trees[i].order = allOrders()[(seed+i*4)%len(allOrders())]
	}
	d.numbers = []int{12, 60, 300, 900}[seed%4]
	return d
}

// goOn makes steps, in times in which the trees grow, and others in which they get smaller.
func (d *desk) goOn(steps int, others ...int) {
	d.t.Helper()
	for i := range steps {
		d.grows = []int{9, 8, 3, 5}[i*8/steps%4]
		d.step()
		d.held(others...)
		if i%50 == 49 {
			d.read()
		}
	}
	d.read()
}

// TestP134Scripts: two trees against two plain sets, with savepoints, commits and rollbacks between.
func TestP134Scripts(t *testing.T) {
	eachWay(t, func(t *testing.T, log bool) {
		for seed := range 9 {
			s, tx := laid(t, log)
			d := newDesk(t, seed, s, tx)
			want(t, "Commit", tx.Commit(), api.OK)
			d.committed = d.now
			d.tx = writing(t, s)
			d.goOn(500)
		}
	})
}

// narrow is how many pages are left to the trees where there is not room for all, and to the payload beside them.
const narrow = 13

// TestP134Narrow: likewise where there is not room for all.
func TestP134Narrow(t *testing.T) {
	for seed := range 4 {
		tx := having(t, database(api.MaxPages-narrow)...)
		d := newDesk(t, seed, nil, tx)
		d.goOn(240, upTo(2, api.MaxPages-narrow)...)
		if d.full < 3 {
			t.Errorf("there was room for all but %d keys", d.full)
		}
	}
}

// TestP134NewDrop: New and then Drop leave as many free pages more as the database has pages more than before.
func TestP134NewDrop(t *testing.T) {
	for _, free := range [][]int{nil, {3}, {7, 2, 5}} {
		tx := having(t, database(9, free...)...)
		root := grown(t, tx)
		want(t, "Drop", keys.Drop(tx, root), api.OK)
		now, e := space.Free(tx)
		want(t, "Free", e, api.OK)
		if len(now)-len(free) != tx.Count()-9 || len(free) > 0 && !slices.Equal(now, free) {
			t.Errorf("free: %v, behind %v, of %d pages", now, free, tx.Count())
		}
	}
}

// TestP134AnyWay: whatever order keys come in, the tree tells the same, whatever was put in and taken out between.
func TestP134AnyWay(t *testing.T) {
	for _, order := range allOrders() {
		s := anySet(rand.New(rand.NewSource(134)), order, 120)
		for name, way := range orders(len(s.rows)) {
			tx, root := planted(t)
			gone := func(i int) []api.Value {
				return append(slices.Clone(s.rows[i][:min(3, len(s.rows[i]))]), key("gone", i)...)
			}
			for _, i := range way {
				inserts(t, tx, root, order, gone(i))
				inserts(t, tx, root, order, s.rows[i])
				deletes(t, tx, root, order, gone(i))
			}
			for _, i := range way {
				want(t, "Insert again", keys.Insert(tx, root, order, s.rows[i]), api.ErrThere)
			}
			if !same(from(t, tx, root, order, nil), s.rows) {
				t.Errorf("%s: not the keys that were put", name)
			}
			alone(t, tx, root, s)
		}
	}
}

// TestP134Kept: what was committed is there for the next ones, by either way, and what was rolled back is not.
func TestP134Kept(t *testing.T) {
	eachWay(t, func(t *testing.T, log bool) {
		st, tx := laid(t, log)
		root := grown(t, tx)
		s := anySet(rand.New(rand.NewSource(99)), nil, 60)
		for _, k := range s.rows {
			inserts(t, tx, root, nil, k)
		}
		want(t, "Commit", tx.Commit(), api.OK)
		tx = writing(t, st)
		want(t, "Clear", keys.Clear(tx, root), api.OK)
		inserts(t, tx, root, nil, sized(4000, 1))
		want(t, "Rollback", tx.Rollback(), api.OK)
		tx = reading(t, st)
		if !same(from(t, tx, root, nil, nil), s.rows) {
			t.Error("not the keys that were committed")
		}
	})
}
