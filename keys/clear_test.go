package keys_test

import (
	"slices"
	"testing"

	"bureau/api"
	"bureau/keys"
	"bureau/space"
	"bureau/spill"
)

// without is numbers without one of them.
func without(numbers []int, n int) []int {
	return slices.DeleteFunc(slices.Clone(numbers), func(m int) bool { return m == n })
}

// freeBefore is the free pages of a list of pages, rising, with more of them.
func freeBefore(t *testing.T, pages []api.Page, more []int) []int {
	t.Helper()
	free, e := space.Free(having(t, pages...))
	want(t, "Free", e, api.OK)
	free = append(free, more...)
	slices.Sort(free)
	return free
}

// othersStay ends the test unless all pages that are none of those, nor free, nor the first one, are as they were.
func othersStay(t *testing.T, what string, before, after []api.Page, changed []int) {
	t.Helper()
	if len(before) != len(after) {
		t.Fatalf("%s: %d pages, not %d", what, len(after), len(before))
	}
	for i := range before {
		if i > 0 && before[i] != after[i] && !slices.Contains(changed, i+1) {
			t.Fatalf("%s: page %d is another one", what, i+1)
		}
	}
}

// TestP133Clear: no keys are left, and all pages but the root are free.
func TestP133Clear(t *testing.T) {
	for _, h := range allByHand() {
		tx := having(t, h.pages...)
		want(t, "Clear", keys.Clear(tx, h.root), api.OK)
		tells(t, tx, h.root, h.order)
		frees(t, h.what, tx, freeBefore(t, h.pages, without(h.own, h.root))...)
		othersStay(t, h.what, h.pages, seen(t, tx), h.own)
		if p, _ := tx.Page(h.root); p != leaf() {
			t.Errorf("%s: the root is % x", h.what, p)
		}
		want(t, "Release", tx.Release(1), api.ErrNone)
		want(t, "Clear again", keys.Clear(tx, h.root), api.OK)
		inserts(t, tx, h.root, h.order, sized(90, 1))
		tells(t, tx, h.root, h.order, sized(90, 1))
	}
}

// TestP133Drop: all pages are free, and there is no tree.
func TestP133Drop(t *testing.T) {
	for _, h := range allByHand() {
		tx := having(t, h.pages...)
		want(t, "Drop", keys.Drop(tx, h.root), api.OK)
		frees(t, h.what, tx, freeBefore(t, h.pages, h.own)...)
		othersStay(t, h.what, h.pages, seen(t, tx), h.own)
		want(t, "Release", tx.Release(1), api.ErrNone)
		for _, c := range ofRoot(h.root, h.order, key(5)) {
			refuses(t, "dropped", tx, c, api.ErrBad)
		}
	}
}

// TestP133Great: a great tree with chains in leaves and in inner pages, among other things, is cleared, grows again and is dropped.
func TestP133Great(t *testing.T) {
	eachWay(t, func(t *testing.T, log bool) {
		s, tx := laid(t, log)
		other, root := grown(t, tx), grown(t, tx)
		stub, e := spill.Put(tx, recordOf(sized(2000, 3)))
		want(t, "spill.Put", e, api.OK)
		payload, e := spill.Pages(tx, stub)
		want(t, "spill.Pages", e, api.OK)
		one, two := set{}, set{order: []api.Order{{Desc: true}}}
		fill := func() {
			for i := range 120 {
				n := i * 37 % 120
				k := filled(key(n), 10+n*13%250, "!")
				inserts(t, tx, root, nil, k)
				one.add(k)
				if two.add(k) {
					inserts(t, tx, other, two.order, k)
				}
			}
		}
		whole := func() {
			t.Helper()
			pages := seen(t, tx)
			a, b := stands(t, pages, root, nil, one.rows)
			c, d := stands(t, pages, other, two.order, two.rows)
			shared(t, tx, a, b, c, d, payload)
			if l, e := keys.Pages(tx, root); e != api.OK || !slices.Equal(l, slices.Sorted(slices.Values(slices.Concat(a, b)))) {
				t.Fatalf("Pages: %v %v", l, e)
			}
		}
		for range 2 {
			fill()
			whole()
			want(t, "Commit", tx.Commit(), api.OK)
			tx = writing(t, s)
			whole()
			want(t, "Clear", keys.Clear(tx, root), api.OK)
			one.rows = nil
			whole()
		}
		fill()
		count := tx.Count()
		own, e := keys.Pages(tx, root)
		want(t, "Pages", e, api.OK)
		before, e := space.Free(tx)
		want(t, "Free", e, api.OK)
		want(t, "Drop", keys.Drop(tx, root), api.OK)
		frees(t, "dropped", tx, slices.Sorted(slices.Values(slices.Concat(own, before)))...)
		if tx.Count() != count {
			t.Errorf("%d pages, not %d", tx.Count(), count)
		}
		stands(t, seen(t, tx), other, two.order, two.rows)
		if p, _, e := spill.Get(tx, stub); p != recordOf(sized(2000, 3)) || e != api.OK {
			t.Errorf("another payload: %v", e)
		}
	})
}

// TestP133FreshList: the list that Pages answers is the caller's own.
func TestP133FreshList(t *testing.T) {
	h := threeLevels()
	tx := having(t, h.pages...)
	one, e := keys.Pages(tx, h.root)
	want(t, "Pages", e, api.OK)
	for i := range one {
		one[i] = 99
	}
	_ = append(one, 98)
	if two, e := keys.Pages(tx, h.root); !slices.Equal(two, h.own) || e != api.OK {
		t.Errorf("Pages: %v %v", two, e)
	}
}
