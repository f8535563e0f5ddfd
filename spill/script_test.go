package spill_test

import (
	"math/rand"
	"slices"
	"testing"

	"bureau/api"
	"bureau/spill"
	"bureau/store"
)

// stored is a payload that was put, with what is known of it.
type stored struct {
	payload, stub string
	pages         []int
}

// model is a database as the chapter's words have it: lists, and no pages.
type model struct {
	count int
	free  []int // the one that is taken next first
	all   []stored
}

func (m model) copy() model {
	return model{m.count, slices.Clone(m.free), slices.Clone(m.all)}
}

// take is the pages that a chain of so many takes, if there is room.
func (m *model) take(pages int) ([]int, bool) {
	if pages > len(m.free)+api.MaxPages-m.count {
		return nil, false
	}
	old := min(pages, len(m.free))
	taken := slices.Concat(m.free[:old], upTo(m.count+1, m.count+pages-old))
	m.free = m.free[old:]
	m.count += pages - old
	return taken, true
}

// desk is a model beside a transaction.
type desk struct {
	t         *testing.T
	r         *rand.Rand
	store     *store.Store
	tx        *store.Tx
	model     model
	committed model
	saves     []model
}

func (d *desk) put(payload string) {
	d.t.Helper()
	pages, fits := d.model.take(pagesFor(len(payload)))
	if !fits {
		if s, e := spill.Put(d.tx, payload); s != "" || e != api.ErrFull {
			d.t.Fatalf("Put without room: %q %v", s, e)
		}
		return
	}
	s := stored{payload, stubOf(payload, append(pages, 0)[0]), pages}
	puts(d.t, d.tx, payload, s.stub)
	d.model.all = append(d.model.all, s)
}

func (d *desk) putAny() {
	length := d.r.Intn(4001)
	switch d.r.Intn(4) {
	case 0:
		length = edges[d.r.Intn(len(edges))]
	case 1:
		length = d.r.Intn(600)
	}
	d.put(payloadOf(length, d.r.Intn(256)))
}

// drop drops any payload, and tells which.
func (d *desk) drop() (stored, bool) {
	if len(d.model.all) == 0 {
		return stored{}, false
	}
	i := d.r.Intn(len(d.model.all))
	s := d.model.all[i]
	drops(d.t, d.tx, s.stub)
	d.model.all = slices.Delete(d.model.all, i, i+1)
	d.model.free = slices.Concat(s.pages, d.model.free)
	return s, true
}

// again puts what it drops.
func (d *desk) again() {
	s, is := d.drop()
	if !is {
		return
	}
	d.put(s.payload)
	if last := d.model.all[len(d.model.all)-1]; last.stub != s.stub || !slices.Equal(last.pages, s.pages) {
		d.t.Fatalf("put behind its Drop: the pages %v, not %v", last.pages, s.pages)
	}
}

func (d *desk) save() {
	n, e := d.tx.Save()
	want(d.t, "Save", e, api.OK)
	d.saves = append(d.saves, d.model.copy())
	if n != len(d.saves) {
		d.t.Fatalf("savepoint %d, not %d", n, len(d.saves))
	}
}

func (d *desk) back() {
	if len(d.saves) == 0 {
		return
	}
	n := 1 + d.r.Intn(len(d.saves))
	want(d.t, "Back", d.tx.Back(n), api.OK)
	d.saves = d.saves[:n]
	d.model = d.saves[n-1].copy()
}

func (d *desk) release() {
	if len(d.saves) == 0 {
		return
	}
	n := 1 + d.r.Intn(len(d.saves))
	want(d.t, "Release", d.tx.Release(n), api.OK)
	d.saves = d.saves[:n-1]
}

func (d *desk) end() {
	if d.r.Intn(3) == 0 {
		want(d.t, "Rollback", d.tx.Rollback(), api.OK)
		d.model = d.committed.copy()
	} else {
		want(d.t, "Commit", d.tx.Commit(), api.OK)
		d.committed = d.model.copy()
	}
	d.saves = nil
	d.tx = writing(d.t, d.store)
}

// held fails the test unless the transaction has what the model has.
func (d *desk) held(what string) {
	d.t.Helper()
	if d.tx.Count() != d.model.count {
		d.t.Fatalf("%s: %d pages, not %d", what, d.tx.Count(), d.model.count)
	}
	frees(d.t, what, d.tx, d.model.free...)
	for _, s := range d.model.all {
		if p, n, e := spill.Get(d.tx, s.stub+"more"); p != s.payload || n != len(s.stub) || e != api.OK {
			d.t.Fatalf("%s: Get of %d bytes: %d bytes, %d, %v", what, len(s.payload), len(p), n, e)
		}
		if l, e := spill.Pages(d.tx, s.stub); !slices.Equal(l, s.pages) || e != api.OK {
			d.t.Fatalf("%s: Pages: %v %v, not %v", what, l, e, s.pages)
		}
	}
}

func (d *desk) step() {
	switch n := d.r.Intn(40); {
	case n < 14:
		d.putAny()
	case n < 25:
		d.drop()
	case n < 31:
		d.again()
	case n < 35:
		d.save()
	case n < 37:
		d.back()
	case n < 38:
		d.release()
	case n < 39 && d.store != nil:
		d.end()
	}
}

// TestP114Scripts: payloads put and dropped, savepoints, commits and rollbacks between, held against a list of payloads.
func TestP114Scripts(t *testing.T) {
	eachWay(t, func(t *testing.T, log bool) {
		for seed := range int64(12) {
			s, tx := laid(t, log)
			want(t, "Commit", tx.Commit(), api.OK)
			d := &desk{t: t, r: rand.New(rand.NewSource(seed)), store: s, tx: writing(t, s)}
			d.model.count, d.committed.count = 1, 1
			for range 120 {
				d.step()
				d.held("a script")
			}
		}
	})
}

// TestP114Narrow: likewise where there is not room for all.
func TestP114Narrow(t *testing.T) {
	for seed := range int64(6) {
		free := []int{70, 3000, 5}
		d := &desk{t: t, r: rand.New(rand.NewSource(seed)), tx: having(t, database(api.MaxPages-40, free...)...)}
		d.model = model{count: api.MaxPages - 40, free: free}
		for range 150 {
			d.step()
			d.held("a narrow script")
		}
	}
}

// TestP114AllLengths: how many pages a payload takes, at each length that it may have, and that they are given back and taken again.
func TestP114AllLengths(t *testing.T) {
	_, tx := laid(t, false)
	most := 1
	for length := range api.MaxRecord + 1 {
		payload := payloadOf(length, length)
		s, e := spill.Put(tx, payload)
		want(t, "Put", e, api.OK)
		n := 0
		if length > 40 {
			n = (length - 40 + 239) / 240
		}
		most = max(most, 1+n)
		if tx.Count() != most {
			t.Fatalf("%d bytes: %d pages, not %d", length, tx.Count(), most)
		}
		frees(t, "put", tx, upTo(2+n, most)...)
		if p, size, e := spill.Get(tx, s); p != payload || size != len(s) || e != api.OK {
			t.Fatalf("%d bytes: %d bytes, %d, %v", length, len(p), size, e)
		}
		if l, e := spill.Pages(tx, s); !slices.Equal(l, upTo(2, 1+n)) || e != api.OK {
			t.Fatalf("%d bytes: the pages %v %v", length, l, e)
		}
		drops(t, tx, s)
		frees(t, "dropped", tx, upTo(2, most)...)
	}
}

// TestP114Again: behind its Drop a payload takes the same pages in the same order, whichever they were.
func TestP114Again(t *testing.T) {
	for _, length := range edges {
		numbers := []int{20, 2, 19, 3, 18, 4, 17, 5, 16, 6, 15, 7, 14, 8, 13, 9, 12}[:pagesFor(length)]
		pages := database(24, 22, 23)
		payload := payloadOf(length, 3)
		stub := lay(pages, payload, numbers...)
		tx := having(t, pages...)
		for range 3 {
			drops(t, tx, stub)
			puts(t, tx, payload, stub)
			sees(t, "put again", tx, pages...)
		}
		frees(t, "put again", tx, 22, 23)
	}
}

// TestP114Apart: payloads of the same bytes have pages of their own.
func TestP114Apart(t *testing.T) {
	_, tx := laid(t, true)
	payload := payloadOf(500, 1)
	one, _ := spill.Put(tx, payload)
	two, _ := spill.Put(tx, payload)
	holds(t, tx, one, payload, 2, 3)
	holds(t, tx, two, payload, 4, 5)
	drops(t, tx, one)
	holds(t, tx, two, payload, 4, 5)
	other := payloadOf(500, 2)
	puts(t, tx, other, stubOf(other, 2))
	holds(t, tx, two, payload, 4, 5)
}
