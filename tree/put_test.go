package tree_test

import (
	"cmp"
	"math/rand"
	"slices"
	"testing"

	"bureau/api"
	"bureau/store"
	"bureau/tree"
)

// sorted is the rows of a map, rising.
func sorted(m map[int64]string) []api.RowAt {
	rows := make([]api.RowAt, 0, len(m))
	for key, data := range m {
		rows = append(rows, api.RowAt{Key: key, Data: data})
	}
	slices.SortFunc(rows, func(a, b api.RowAt) int { return cmp.Compare(a.Key, b.Key) })
	return rows
}

// alone ends the test unless the database has just that tree, with those rows.
func alone(t *testing.T, tx *store.Tx, root int, m map[int64]string) {
	t.Helper()
	own, chains := stands(t, seen(t, tx), root, sorted(m))
	shared(t, tx, own, chains)
}

// TestP123Bytes: a row's cell is its number as 8 bytes, and the stub of its data.
func TestP123Bytes(t *testing.T) {
	tx, root := planted(t)
	first := seen(t, tx)[0]
	for i, c := range []struct {
		key   int64
		bytes string
	}{
		{0, "\x80\x00\x00\x00\x00\x00\x00\x00"}, {-1, "\x7f\xff\xff\xff\xff\xff\xff\xff"}, {258, "\x80\x00\x00\x00\x00\x00\x01\x02"},
		{least, "\x00\x00\x00\x00\x00\x00\x00\x00"}, {most, "\xff\xff\xff\xff\xff\xff\xff\xff"},
	} {
		puts(t, tx, root, c.key, "ab", true)
		sees(t, "one row", tx, first, leaf(c.bytes+"\x02ab"))
		if i%2 == 0 {
			deletes(t, tx, root, c.key)
		} else {
			want(t, "Clear", tree.Clear(tx, root), api.OK)
		}
		sees(t, "no row", tx, first, leaf())
	}
	for _, length := range edges {
		tx, root := planted(t)
		puts(t, tx, root, 9, dataOf(length, 1), true)
		pages := append([]api.Page{first}, make([]api.Page, 1+pagesFor(length))...)
		pages[1] = leaf(eightBytes(9) + lay(pages, dataOf(length, 1), upTo(3, 2+pagesFor(length))...))
		sees(t, "data", tx, pages...)
	}
}

// TestP123InPlace: a row is put in the place of one with longer or shorter data, whose chain is given back.
func TestP123InPlace(t *testing.T) {
	for _, before := range edges {
		for _, after := range edges {
			tx, root := planted(t)
			m := map[int64]string{4: "four", 5: dataOf(before, 1), 6: dataOf(300, 3)}
			for key := int64(4); key <= 6; key++ {
				puts(t, tx, root, key, m[key], true)
			}
			alone(t, tx, root, m)
			m[5] = dataOf(after, 2)
			puts(t, tx, root, 5, m[5], false)
			alone(t, tx, root, m)
			tells(t, tx, root, sorted(m)...)
			count := 2 + max(pagesFor(before), pagesFor(after)) + pagesFor(300)
			if tx.Count() != count {
				t.Fatalf("%d bytes in the place of %d: %d pages, not %d", after, before, tx.Count(), count)
			}
		}
	}
}

// TestP123InPlaceEverywhere: rows of a great tree get longer and shorter, one behind the other: leaves are cut and joined by it.
func TestP123InPlaceEverywhere(t *testing.T) {
	tx, root := planted(t)
	m := map[int64]string{}
	for key := range int64(150) {
		m[key] = ""
		puts(t, tx, root, key, "", true)
	}
	for _, length := range []int{40, 0, 41, 1, 30, 0} {
		for i := range int64(150) {
			key := i * 77 % 150
			m[key] = dataOf(length, int(key))
			puts(t, tx, root, key, m[key], false)
			alone(t, tx, root, m)
		}
		tells(t, tx, root, sorted(m)...)
	}
	if own, _ := stands(t, seen(t, tx), root, sorted(m)); len(own) > 30 {
		t.Errorf("150 rows without data in %d pages", len(own))
	}
}

// orders is ways to go over n numbers.
func orders(n int) map[string][]int {
	rising := upTo(0, n-1)
	falling := slices.Clone(rising)
	slices.Reverse(falling)
	var inwards, outwards []int
	for i := range n / 2 {
		inwards = append(inwards, i, n-1-i)
		outwards = append(outwards, n/2-1-i, n/2+i)
	}
	return map[string][]int{"rising": rising, "falling": falling, "inwards": inwards, "outwards": outwards, "any": rand.New(rand.NewSource(int64(n))).Perm(n)}
}

// TestP123Orders: rows are put in each order, and taken out in each, of so many rows that the root is above inner pages.
func TestP123Orders(t *testing.T) {
	for _, n := range []int{2, 6, 60, 400} {
		for in, puttings := range orders(n) {
			for out, takings := range orders(n) {
				tx, root := planted(t)
				m := map[int64]string{}
				for i, k := range puttings {
					key := int64(k*3 - n)
					m[key] = dataOf(k*5%39, k)
					puts(t, tx, root, key, m[key], true)
					if i%37 == 0 || n < 10 {
						alone(t, tx, root, m)
					}
				}
				alone(t, tx, root, m)
				if n < 100 {
					tells(t, tx, root, sorted(m)...)
				}
				for i, k := range takings {
					key := int64(k*3 - n)
					delete(m, key)
					deletes(t, tx, root, key)
					if e := tree.Delete(tx, root, key); e != api.ErrNone {
						t.Fatalf("%s, %s: Delete of %d again: %v", in, out, key, e)
					}
					if i%37 == 0 || len(m) < 12 {
						alone(t, tx, root, m)
					}
				}
				tells(t, tx, root)
				sees(t, "none left", tx, with(seen(t, tx), root, leaf())...)
				frees(t, "none left", tx, upTo(3, tx.Count())...)
			}
		}
	}
}

// TestP123Levels: the tests above have met trees of each height.
func TestP123Levels(t *testing.T) {
	far := func(tx *store.Tx, root int) int {
		f := 0
		for n := root; ; f++ {
			p, _ := tx.Page(n)
			link, _, _ := partsOf(p)
			if p[0] != 2 {
				return f
			}
			n = int(link)
		}
	}
	tx, root := planted(t)
	met := map[int]int{}
	for key := range int64(400) {
		puts(t, tx, root, key, dataOf(int(key)*5%39, 0), true)
		met[far(tx, root)]++
	}
	if met[0] == 0 || met[1] == 0 || met[2] == 0 {
		t.Errorf("levels: %v", met)
	}
}

// TestP123RootStays: the root's number is the tree's for good, whatever its page becomes.
func TestP123RootStays(t *testing.T) {
	tx := having(t, database(9, 7, 3, 5)...)
	root := grown(t, tx)
	m := map[int64]string{}
	for key := range int64(90) {
		m[key] = digits(key)
		puts(t, tx, root, key, m[key], true)
		stands(t, seen(t, tx), root, sorted(m))
	}
	for key := range int64(90) {
		delete(m, key)
		deletes(t, tx, root, key)
		stands(t, seen(t, tx), root, sorted(m))
	}
	if root != 7 {
		t.Errorf("the root %d", root)
	}
}

// TestP123ByHand: each row of trees that were laid by hand is taken out, and put with other data, and rows are put between.
func TestP123ByHand(t *testing.T) {
	for _, h := range allByHand() {
		m := map[int64]string{}
		for _, r := range h.rows {
			m[r.Key] = r.Data
		}
		try := func(change func(tx *store.Tx)) {
			t.Helper()
			tx := having(t, h.pages...)
			change(tx)
			own, chains := stands(t, seen(t, tx), h.root, sorted(m))
			tells(t, tx, h.root, sorted(m)...)
			after, e := tree.Pages(tx, h.root)
			if all := slices.Sorted(slices.Values(slices.Concat(own, chains))); e != api.OK || !slices.Equal(after, all) {
				t.Fatalf("%s: Pages: %v %v, not %v", h.what, after, e, all)
			}
		}
		for _, r := range h.rows {
			delete(m, r.Key)
			try(func(tx *store.Tx) { deletes(t, tx, h.root, r.Key) })
			for _, data := range []string{"", dataOf(40, 2), dataOf(600, 2)} {
				m[r.Key] = data
				try(func(tx *store.Tx) { puts(t, tx, h.root, r.Key, data, false) })
			}
			m[r.Key] = r.Data
		}
		for _, key := range []int64{least + 7, -100, 2, 3, 5, 7, 11, 20, 25, 26, 60, 100, most - 7} {
			if _, is := m[key]; is {
				continue
			}
			for _, data := range []string{"", dataOf(40, 2), dataOf(600, 2)} {
				m[key] = data
				try(func(tx *store.Tx) { puts(t, tx, h.root, key, data, true) })
			}
			delete(m, key)
		}
	}
}
