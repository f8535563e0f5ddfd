package keys_test

import (
	"slices"
	"testing"

	"bureau/api"
	"bureau/keys"
	"bureau/space"
	"bureau/store"
)

// crowded is those pages in a database of MaxPages pages, of which so many of the last ones are free beside those that are free in it.
func crowded(t *testing.T, pages []api.Page, room int) *store.Tx {
	t.Helper()
	all := slices.Concat(pages, database(api.MaxPages)[len(pages):])
	tx := having(t, all...)
	for i := range room {
		want(t, "Give", space.Give(tx, api.MaxPages-i), api.OK)
	}
	return tx
}

// noFree is pages without the free ones among them, which are in use then.
func noFree(pages []api.Page) []api.Page {
	pages = slices.Clone(pages)
	for i, p := range pages {
		if i > 0 && p[0] == 0 {
			pages[i] = used(i)
		}
	}
	pages[0] = firstPage(0)
	return pages
}

// taken is how many pages a change takes that are not free ahead of it.
func taken(t *testing.T, pages []api.Page, c call) int {
	t.Helper()
	tx := having(t, pages...)
	_, e := c.does(tx)
	want(t, c.name, e, api.OK)
	return tx.Count() - len(pages)
}

// TestP132Full: an Insert has room where there are as many pages as it takes; where there is one less nothing has changed, the free pages neither.
func TestP132Full(t *testing.T) {
	for _, h := range allByHand() {
		pages := noFree(h.pages)
		for _, k := range [][]api.Value{key(-4, "x"), filled(key(12), 37, "+"), filled(key(25), 38, "+"), sized(281, 45), sized(4000, 45)} {
			takes := taken(t, pages, insert(h.root, h.order, k))
			for room := max(takes-2, 0); room < takes; room++ {
				refuses(t, h.what, crowded(t, pages, room), insert(h.root, h.order, k), api.ErrFull)
			}
			if takes < 2 || len(recordOf(k)) > 300 {
				continue
			}
			tx := crowded(t, pages, takes)
			inserts(t, tx, h.root, h.order, k)
			s := set{h.order, h.rows}
			s.add(k)
			stands(t, seen(t, tx), h.root, h.order, s.rows)
			frees(t, h.what, tx)
		}
		if len(h.rows) > 0 {
			refuses(t, h.what, crowded(t, pages, 0), insert(h.root, h.order, h.rows[len(h.rows)/2]), api.ErrThere)
		}
	}
}

// TestP132DeleteFull: where no page is left keys are taken out still; what is not there is ErrNone.
func TestP132DeleteFull(t *testing.T) {
	for _, h := range []byHand{threeLevels(), withChains(), longKeys(41), fullInners()[1]} {
		for _, way := range []string{"rising", "falling", "any"} {
			tx := crowded(t, noFree(h.pages), 0)
			s := set{h.order, h.rows}
			refuses(t, h.what, tx, del(h.root, h.order, sized(3000, 5)), api.ErrNone)
			for _, i := range orders(len(h.rows))[way] {
				s.remove(h.rows[i])
				deletes(t, tx, h.root, h.order, h.rows[i])
				stands(t, seen(t, tx), h.root, h.order, s.rows)
			}
			frees(t, "all taken out", tx, without(h.own, h.root)...)
		}
	}
}

// lopsided is a tree that loses a leaf by Delete of key(2), so that the inner page above has no cells, and shares with the one beside it, that is full. What goes up by that is long, where a short key stood: the root has no room for it, and must be cut.
func lopsided() byHand {
	l := newLayer(90)
	var rows [][]api.Value
	next := 2
	leafOf := func() int {
		rows = append(rows, key(next, "row"))
		next += 2
		return l.leaf(rows[len(rows)-1])
	}
	// branch is an inner page; the keys between are the odd numbers, those in long with a chain.
	branch := func(leaves int, long ...int) int {
		var children []int
		var between [][]api.Value
		for i := range leaves {
			children = append(children, leafOf())
			k := key(next - 1)
			if slices.Contains(long, i) {
				k = numbered(next-1, 130)
			}
			between = append(between, k)
		}
		return l.inner(children, between[:leaves-1]...)
	}
	children := []int{branch(2)}
	between := [][]api.Value{key(next - 1)}
	children = append(children, branch(24, 11))
	for range 4 {
		between = append(between, numbered(next-1, 130))
		children = append(children, branch(2))
	}
	return l.tree("lopsided", l.inner(children, between...), nil, rows...)
}

// TestP132DeleteTakes: a Delete that must cut a page takes pages; where there are not so many nothing has changed.
func TestP132DeleteTakes(t *testing.T) {
	h := lopsided()
	tx := crowded(t, h.pages, 0)
	refuses(t, "no room", tx, del(h.root, nil, h.rows[0]), api.ErrFull)
	stands(t, seen(t, tx), h.root, nil, h.rows)
	for _, room := range []int{1, 2} {
		tx := crowded(t, h.pages, room)
		levels := height(seen(t, tx), h.root)
		deletes(t, tx, h.root, nil, h.rows[0])
		stands(t, seen(t, tx), h.root, nil, h.rows[1:])
		if height(seen(t, tx), h.root) != levels+1 {
			t.Error("the root was not cut")
		}
		for i := range h.rows[1:] {
			deletes(t, tx, h.root, nil, h.rows[1+i])
			stands(t, seen(t, tx), h.root, nil, h.rows[2+i:])
		}
	}
}

// TestP132FilledUp: keys are put till there is no page any more, then taken out; with each ErrFull all is as it was.
func TestP132FilledUp(t *testing.T) {
	tx := having(t, database(api.MaxPages-60)...)
	root := grown(t, tx)
	s := set{order: []api.Order{{Desc: true}}}
	refused := 0
	for n := 0; refused < 10; n++ {
		k := filled(key(n*7%1000), 10+n*29%300, "!")
		before := seen(t, tx)
		e := keys.Insert(tx, root, s.order, k)
		if e == api.OK {
			s.add(k)
			continue
		}
		refused++
		if e != api.ErrFull || !slices.Equal(before, seen(t, tx)) {
			t.Fatalf("Insert: %v", e)
		}
	}
	stands(t, seen(t, tx), root, s.order, s.rows)
	for len(s.rows) > 0 {
		k := s.rows[len(s.rows)*3/7]
		s.remove(k)
		deletes(t, tx, root, s.order, k)
		stands(t, seen(t, tx), root, s.order, s.rows)
	}
}

// TestP133Full: Clear and Drop need no page.
func TestP133Full(t *testing.T) {
	for _, h := range []byHand{threeLevels(), withChains(), longKeys(41)} {
		tx := crowded(t, noFree(h.pages), 0)
		want(t, "Clear", keys.Clear(tx, h.root), api.OK)
		frees(t, "cleared", tx, without(h.own, h.root)...)
		tx = crowded(t, noFree(h.pages), 0)
		want(t, "Drop", keys.Drop(tx, h.root), api.OK)
		frees(t, "dropped", tx, h.own...)
	}
}
