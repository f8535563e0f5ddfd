package tree_test

import (
	"slices"
	"testing"

	"bureau/api"
	"bureau/space"
	"bureau/spill"
	"bureau/tree"
)

// without is numbers without one of them.
func without(numbers []int, n int) []int {
	return slices.DeleteFunc(slices.Clone(numbers), func(m int) bool { return m == n })
}

// freeBefore is the free pages of a list of pages, rising, with more of them.
func freeBefore(t *testing.T, pages []api.Page, more []int) []int {
	t.Helper()
	free, e := space.Free(having(t, pages...))
	want(t, "Free", e, api.OK)
	free = append(free, more...)
	slices.Sort(free)
	return free
}

// othersStay ends the test unless all pages that are none of those, nor free, nor the first one, are as they were.
func othersStay(t *testing.T, what string, before, after []api.Page, changed []int) {
	t.Helper()
	if len(before) != len(after) {
		t.Fatalf("%s: %d pages, not %d", what, len(after), len(before))
	}
	for i := range before {
		if i > 0 && before[i] != after[i] && !slices.Contains(changed, i+1) {
			t.Fatalf("%s: page %d is another one", what, i+1)
		}
	}
}

// TestP124Clear: no rows are left, and all pages but the root are free.
func TestP124Clear(t *testing.T) {
	for _, h := range allByHand() {
		tx := having(t, h.pages...)
		want(t, "Clear", tree.Clear(tx, h.root), api.OK)
		tells(t, tx, h.root)
		frees(t, h.what, tx, freeBefore(t, h.pages, without(h.own, h.root))...)
		othersStay(t, h.what, h.pages, seen(t, tx), h.own)
		if p, _ := tx.Page(h.root); p != leaf() {
			t.Errorf("%s: the root is % x", h.what, p)
		}
		want(t, "Release", tx.Release(1), api.ErrNone)
		want(t, "Clear again", tree.Clear(tx, h.root), api.OK)
		puts(t, tx, h.root, 3, dataOf(90, 1), true)
		tells(t, tx, h.root, api.RowAt{Key: 3, Data: dataOf(90, 1)})
	}
}

// TestP124Drop: all pages are free, and there is no tree.
func TestP124Drop(t *testing.T) {
	for _, h := range allByHand() {
		tx := having(t, h.pages...)
		want(t, "Drop", tree.Drop(tx, h.root), api.OK)
		frees(t, h.what, tx, freeBefore(t, h.pages, h.own)...)
		othersStay(t, h.what, h.pages, seen(t, tx), h.own)
		want(t, "Release", tx.Release(1), api.ErrNone)
		for _, c := range ofRoot(h.root, 5) {
			refuses(t, "dropped", tx, c, api.ErrBad)
		}
	}
}

// TestP124Great: a great tree with chains, among other things, is cleared, grows again and is dropped.
func TestP124Great(t *testing.T) {
	eachWay(t, func(t *testing.T, log bool) {
		s, tx := laid(t, log)
		other, root := grown(t, tx), grown(t, tx)
		stub, e := spill.Put(tx, dataOf(2000, 3))
		want(t, "spill.Put", e, api.OK)
		payload, e := spill.Pages(tx, stub)
		want(t, "spill.Pages", e, api.OK)
		m, o := map[int64]string{}, map[int64]string{}
		fill := func() {
			for i := range int64(200) {
				key := i * 37 % 200
				m[key], o[-key] = dataOf(int(i)*13%500, int(key)), digits(key)
				puts(t, tx, root, key, m[key], true)
				tree.Put(tx, other, -key, o[-key])
			}
		}
		whole := func() {
			t.Helper()
			pages := seen(t, tx)
			a, b := stands(t, pages, root, sorted(m))
			c, d := stands(t, pages, other, sorted(o))
			shared(t, tx, a, b, c, d, payload)
			if l, e := tree.Pages(tx, root); e != api.OK || !slices.Equal(l, slices.Sorted(slices.Values(slices.Concat(a, b)))) {
				t.Fatalf("Pages: %v %v", l, e)
			}
		}
		for range 2 {
			fill()
			whole()
			want(t, "Commit", tx.Commit(), api.OK)
			tx = writing(t, s)
			whole()
			want(t, "Clear", tree.Clear(tx, root), api.OK)
			clear(m)
			whole()
		}
		fill()
		count := tx.Count()
		own, e := tree.Pages(tx, root)
		want(t, "Pages", e, api.OK)
		before, e := space.Free(tx)
		want(t, "Free", e, api.OK)
		want(t, "Drop", tree.Drop(tx, root), api.OK)
		frees(t, "dropped", tx, slices.Sorted(slices.Values(slices.Concat(own, before)))...)
		if tx.Count() != count {
			t.Errorf("%d pages, not %d", tx.Count(), count)
		}
		tells(t, tx, other, sorted(o)...)
		if p, _, e := spill.Get(tx, stub); p != dataOf(2000, 3) || e != api.OK {
			t.Errorf("another payload: %v", e)
		}
	})
}

// TestP124FreshList: the list that Pages answers is the caller's own.
func TestP124FreshList(t *testing.T) {
	h := threeLevels()
	tx := having(t, h.pages...)
	one, e := tree.Pages(tx, h.root)
	want(t, "Pages", e, api.OK)
	for i := range one {
		one[i] = 99
	}
	_ = append(one, 98)
	if two, e := tree.Pages(tx, h.root); !slices.Equal(two, h.own) || e != api.OK {
		t.Errorf("Pages: %v %v", two, e)
	}
}
