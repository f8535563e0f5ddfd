package tree_test

import (
	"slices"
	"testing"

	"bureau/api"
	"bureau/space"
	"bureau/store"
	"bureau/tree"
)

// crowded is those pages in a database of MaxPages pages, of which so many of the last ones are free beside those that are free in it.
func crowded(t *testing.T, pages []api.Page, room int) *store.Tx {
	t.Helper()
	all := slices.Concat(pages, database(api.MaxPages)[len(pages):])
	tx := having(t, all...)
	for i := range room {
		want(t, "Give", space.Give(tx, api.MaxPages-i), api.OK)
	}
	return tx
}

// noFree is pages without the free ones among them, which are in use then.
func noFree(pages []api.Page) []api.Page {
	pages = slices.Clone(pages)
	for i, p := range pages {
		if i > 0 && p[0] == 0 {
			pages[i] = used(i)
		}
	}
	pages[0] = firstPage(0)
	return pages
}

// taken is how many pages a Put takes that are not free ahead of it.
func taken(t *testing.T, pages []api.Page, root int, key int64, data string) int {
	t.Helper()
	tx := having(t, pages...)
	_, e := tree.Put(tx, root, key, data)
	want(t, "Put", e, api.OK)
	return tx.Count() - len(pages)
}

// TestP123Full: a Put has room where there are as many pages as it takes; where there is one less nothing has changed, the free pages neither.
func TestP123Full(t *testing.T) {
	for _, h := range allByHand() {
		pages := noFree(h.pages)
		for _, key := range []int64{-4, 0, 25, most} {
			for _, length := range []int{0, 40, 41, 281, 4000} {
				data := dataOf(length, 5)
				takes := taken(t, pages, h.root, key, data)
				for room := max(takes-2, 0); room < takes; room++ {
					refuses(t, h.what, crowded(t, pages, room), put(h.root, key, data), api.ErrFull)
				}
				if length != 281 && length != 40 {
					continue
				}
				tx := crowded(t, pages, takes)
				_, e := tree.Put(tx, h.root, key, data)
				want(t, h.what+": just room enough", e, api.OK)
				stands(t, seen(t, tx), h.root, all(t, tx, h.root))
				if d, e := tree.Get(tx, h.root, key); d != data || e != api.OK {
					t.Fatalf("%s: Get of what had just room enough: %v", h.what, e)
				}
			}
		}
	}
}

// TestP123FullInPlace: where no page is left rows are taken out still, and put in another's place with data that are not longer.
func TestP123FullInPlace(t *testing.T) {
	h := withChains()
	tx := crowded(t, noFree(h.pages), 0)
	m := map[int64]string{}
	for _, r := range h.rows {
		m[r.Key] = r.Data
	}
	for _, r := range h.rows {
		m[r.Key] = dataOf(len(r.Data), 77)
		puts(t, tx, h.root, r.Key, m[r.Key], false)
		tells(t, tx, h.root, sorted(m)...)
		frees(t, "in its place", tx)
	}
	refuses(t, "a page more", tx, put(h.root, 40, dataOf(521, 1)), api.ErrFull)
	for _, r := range h.rows {
		delete(m, r.Key)
		deletes(t, tx, h.root, r.Key)
		stands(t, seen(t, tx), h.root, sorted(m))
	}
	frees(t, "all taken out", tx, without(h.own, h.root)...)
}

// TestP123FilledUp: rows are put till there is no page any more, then taken out; with each ErrFull all is as it was.
func TestP123FilledUp(t *testing.T) {
	tx := having(t, database(api.MaxPages-60)...)
	root := grown(t, tx)
	m := map[int64]string{}
	refused := 0
	for key := int64(0); refused < 10; key++ {
		data := dataOf(int(key)*29%300, int(key))
		before := seen(t, tx)
		is, e := tree.Put(tx, root, key*7%1000, data)
		if e == api.OK {
			m[key*7%1000] = data
			continue
		}
		refused++
		if is || e != api.ErrFull || !slices.Equal(before, seen(t, tx)) {
			t.Fatalf("Put: %v %v", is, e)
		}
	}
	stands(t, seen(t, tx), root, sorted(m))
	tells(t, tx, root, sorted(m)...)
	for key := range m {
		delete(m, key)
		deletes(t, tx, root, key)
		stands(t, seen(t, tx), root, sorted(m))
	}
}

// TestP124Full: Clear and Drop need no page.
func TestP124Full(t *testing.T) {
	for _, h := range []byHand{threeLevels(), withChains()} {
		tx := crowded(t, noFree(h.pages), 0)
		want(t, "Clear", tree.Clear(tx, h.root), api.OK)
		frees(t, "cleared", tx, without(h.own, h.root)...)
		tx = crowded(t, noFree(h.pages), 0)
		want(t, "Drop", tree.Drop(tx, h.root), api.OK)
		frees(t, "dropped", tx, h.own...)
	}
}
