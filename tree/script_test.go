package tree_test

import (
	"maps"
	"math/rand"
	"slices"
	"testing"

	"bureau/api"
	"bureau/space"
	"bureau/spill"
	"bureau/store"
	"bureau/tree"
)

// plant is a tree as a finite map.
type plant struct {
	root int // 0: there is none
	rows map[int64]string
}

// state is what a database holds: two trees, and a payload that is none of theirs.
type state struct {
	trees [2]plant
	other string // the payload's stub
}

func (s state) copy() state {
	for i := range s.trees {
		s.trees[i].rows = maps.Clone(s.trees[i].rows)
	}
	return s
}

// desk is a model beside a transaction.
type desk struct {
	t         *testing.T
	r         *rand.Rand
	store     *store.Store
	tx        *store.Tx
	now       state
	committed state
	saves     []state
	keys      int // how many numbers the rows may have
	grows     int // of ten steps with a row so many put one
	full      int // how often there was no room
}

const otherLength = 1234

func (d *desk) key() int64 {
	switch d.r.Intn(30) {
	case 0:
		return least + int64(d.r.Intn(2))
	case 1:
		return most - int64(d.r.Intn(2))
	}
	return int64(d.r.Intn(d.keys) - d.keys/2)
}

func (d *desk) data() string {
	length := d.r.Intn(45)
	switch d.r.Intn(12) {
	case 0:
		length = edges[d.r.Intn(len(edges))]
	case 1:
		length = d.r.Intn(600)
	}
	return dataOf(length, d.r.Intn(256))
}

// put puts a row; where there is no room all is as it was.
func (d *desk) put(p *plant) {
	d.t.Helper()
	key, data := d.key(), d.data()
	old, had := p.rows[key]
	before := seen(d.t, d.tx)
	isNew, e := tree.Put(d.tx, p.root, key, data)
	if e == api.ErrFull && !isNew && d.room()+pagesFor(len(old)) < pagesFor(len(data))+mostCut {
		sees(d.t, "full", d.tx, before...)
		d.full++
		return
	}
	if e != api.OK || isNew == had {
		d.t.Fatalf("Put of %d with %d bytes: %v %v, room for %d pages", key, len(data), isNew, e, d.room())
	}
	p.rows[key] = data
}

// mostCut is how many pages a change takes for pages that are cut, one on each of at most three levels, and one more above the root.
const mostCut = 4

// room is how many pages can be taken.
func (d *desk) room() int {
	d.t.Helper()
	free, e := space.Free(d.tx)
	want(d.t, "Free", e, api.OK)
	return len(free) + api.MaxPages - d.tx.Count()
}

func (d *desk) delete(p *plant) {
	d.t.Helper()
	key := d.key()
	if rows := sorted(p.rows); len(rows) > 0 && d.r.Intn(8) > 0 {
		key = rows[d.r.Intn(len(rows))].Key
	}
	wanted := api.ErrNone
	if _, had := p.rows[key]; had {
		wanted = api.OK
	}
	want(d.t, "Delete", tree.Delete(d.tx, p.root, key), wanted)
	delete(p.rows, key)
}

// plants makes a tree where there is none, as long as there is room.
func (d *desk) plants(p *plant) {
	d.t.Helper()
	root, e := tree.New(d.tx)
	if e == api.ErrFull && root == 0 && d.room() == 0 {
		return
	}
	want(d.t, "New", e, api.OK)
	*p = plant{root, map[int64]string{}}
}

func (d *desk) save() {
	n, e := d.tx.Save()
	want(d.t, "Save", e, api.OK)
	d.saves = append(d.saves, d.now.copy())
	if n != len(d.saves) {
		d.t.Fatalf("savepoint %d, not %d", n, len(d.saves))
	}
}

func (d *desk) back() {
	if len(d.saves) == 0 {
		return
	}
	n := 1 + d.r.Intn(len(d.saves))
	want(d.t, "Back", d.tx.Back(n), api.OK)
	d.saves = d.saves[:n]
	d.now = d.saves[n-1].copy()
}

func (d *desk) release() {
	if len(d.saves) == 0 {
		return
	}
	n := 1 + d.r.Intn(len(d.saves))
	want(d.t, "Release", d.tx.Release(n), api.OK)
	d.saves = d.saves[:n-1]
}

func (d *desk) end() {
	if d.r.Intn(3) == 0 {
		want(d.t, "Rollback", d.tx.Rollback(), api.OK)
		d.now = d.committed.copy()
	} else {
		want(d.t, "Commit", d.tx.Commit(), api.OK)
		d.committed = d.now.copy()
	}
	if d.r.Intn(2) == 0 {
		_, e := d.store.Checkpoint()
		want(d.t, "Checkpoint", e, api.OK)
	}
	d.saves = nil
	d.tx = writing(d.t, d.store)
}

// held ends the test unless both trees have what the maps have, and each page belongs to one thing alone.
func (d *desk) held(others ...int) {
	d.t.Helper()
	pages := seen(d.t, d.tx)
	lists := [][]int{others}
	for _, p := range d.now.trees {
		if p.root == 0 {
			continue
		}
		own, chains := stands(d.t, pages, p.root, sorted(p.rows))
		lists = append(lists, own, chains)
	}
	payload, _, e := spill.Get(d.tx, d.now.other)
	if e != api.OK || payload != dataOf(otherLength, 0) {
		d.t.Fatalf("another payload: %v", e)
	}
	numbers, e := spill.Pages(d.tx, d.now.other)
	want(d.t, "spill.Pages", e, api.OK)
	shared(d.t, d.tx, append(lists, numbers)...)
}

func (d *desk) step() {
	p := &d.now.trees[d.r.Intn(2)]
	switch n := d.r.Intn(100); {
	case n < 4:
		d.save()
	case n < 6:
		d.back()
	case n < 7:
		d.release()
	case n < 9 && d.store != nil:
		d.end()
	case p.root == 0:
		d.plants(p)
	case n < 10 && d.r.Intn(4) == 0:
		want(d.t, "Clear", tree.Clear(d.tx, p.root), api.OK)
		clear(p.rows)
	case n < 11 && d.r.Intn(4) == 0:
		want(d.t, "Drop", tree.Drop(d.tx, p.root), api.OK)
		*p = plant{}
	case d.r.Intn(10) < d.grows:
		d.put(p)
	default:
		d.delete(p)
	}
}

// read holds what all calls that read tell against the maps.
func (d *desk) read() {
	d.t.Helper()
	for _, p := range d.now.trees {
		if p.root != 0 {
			tells(d.t, d.tx, p.root, sorted(p.rows)...)
		}
	}
}

// newDesk is a desk whose payload is put.
func newDesk(t *testing.T, seed int64, s *store.Store, tx *store.Tx) *desk {
	t.Helper()
	stub, e := spill.Put(tx, dataOf(otherLength, 0))
	want(t, "spill.Put", e, api.OK)
	d := &desk{t: t, r: rand.New(rand.NewSource(seed)), store: s, tx: tx, now: state{other: stub}}
	d.keys = []int{12, 60, 300, 900}[seed%4]
	return d
}

// goOn makes steps, in times in which the trees grow, and others in which they get smaller.
func (d *desk) goOn(steps int, others ...int) {
	d.t.Helper()
	for i := range steps {
		d.grows = []int{9, 6, 3, 5}[i*8/steps%4]
		d.step()
		d.held(others...)
		if i%50 == 49 {
			d.read()
		}
	}
	d.read()
}

// TestP125Scripts: two trees against two finite maps, with savepoints, commits and rollbacks between. (P12.6 is held behind each step, too.)
func TestP125Scripts(t *testing.T) {
	eachWay(t, func(t *testing.T, log bool) {
		for seed := range int64(8) {
			s, tx := laid(t, log)
			d := newDesk(t, seed, s, tx)
			want(t, "Commit", tx.Commit(), api.OK)
			d.committed = d.now.copy()
			d.tx = writing(t, s)
			d.goOn(600)
		}
	})
}

// narrow is how many pages are left to the trees where there is not room for all, and to the payload beside them.
const narrow = 13

// TestP125Narrow: likewise where there is not room for all.
func TestP125Narrow(t *testing.T) {
	for seed := range int64(4) {
		tx := having(t, database(api.MaxPages-narrow)...)
		d := newDesk(t, seed, nil, tx)
		d.goOn(240, upTo(2, api.MaxPages-narrow)...)
		if d.full < 3 {
			t.Errorf("there was room for all but %d rows", d.full)
		}
	}
}

// TestP125NewDrop: New and then Drop leave as many free pages more as the database has pages more than before.
func TestP125NewDrop(t *testing.T) {
	for _, free := range [][]int{nil, {3}, {7, 2, 5}} {
		tx := having(t, database(9, free...)...)
		root := grown(t, tx)
		want(t, "Drop", tree.Drop(tx, root), api.OK)
		now, e := space.Free(tx)
		want(t, "Free", e, api.OK)
		if len(now)-len(free) != tx.Count()-9 || len(free) > 0 && !slices.Equal(now, free) {
			t.Errorf("free: %v, behind %v, of %d pages", now, free, tx.Count())
		}
	}
}

// TestP125Orders: whatever order rows come in, the tree tells the same.
func TestP125Orders(t *testing.T) {
	m := map[int64]string{}
	for i := range int64(120) {
		m[2*i*i-50] = dataOf(int(i)*3, int(i))
	}
	rows := sorted(m)
	for name, order := range orders(len(rows)) {
		tx, root := planted(t)
		for _, i := range order {
			puts(t, tx, root, rows[i].Key+1, "gone", true)
			tree.Put(tx, root, rows[i].Key, rows[i].Data)
			deletes(t, tx, root, rows[i].Key+1)
		}
		for _, i := range order {
			tree.Put(tx, root, rows[i].Key, rows[i].Data)
		}
		if !slices.Equal(all(t, tx, root), rows) {
			t.Errorf("%s: not the rows that were put", name)
		}
		alone(t, tx, root, m)
	}
}

// TestP126Pages: how many pages a tree has, as Pages tells them, with rows of each length, while it grows and while it gets smaller.
func TestP126Pages(t *testing.T) {
	for _, length := range []int{0, 1, 13, 40, 41, 300} {
		for name, order := range orders(60) {
			tx, root := planted(t)
			held := func(rows int) {
				t.Helper()
				l, e := tree.Pages(tx, root)
				want(t, "Pages", e, api.OK)
				if own := len(l) - rows*pagesFor(length); own < 1 || own > 2*rows+1 {
					t.Fatalf("%s: %d rows of %d bytes: %d pages beside the chains", name, rows, length, own)
				}
			}
			held(0)
			for i, key := range order {
				puts(t, tx, root, int64(key), dataOf(length, key), true)
				held(i + 1)
			}
			for i, key := range order {
				deletes(t, tx, root, int64(key))
				held(len(order) - i - 1)
			}
		}
	}
}
