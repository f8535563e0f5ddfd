package keys_test

import (
	"math/rand"
	"slices"
	"testing"

	"bureau/api"
	"bureau/keys"
	"bureau/store"
)

// orders is ways to go over n things.
func orders(n int) map[string][]int {
	rising := upTo(0, n-1)
	falling := slices.Clone(rising)
	slices.Reverse(falling)
	var inwards, outwards []int
	for i := range n / 2 {
		inwards = append(inwards, i, n-1-i)
		outwards = append(outwards, n/2-1-i, n/2+i)
	}
	if n%2 == 1 {
		inwards, outwards = append(inwards, n/2), append(outwards, n-1)
	}
	return map[string][]int{"rising": rising, "falling": falling, "inwards": inwards, "outwards": outwards, "any": rand.New(rand.NewSource(int64(n))).Perm(n)}
}

// TestP132Bytes: a leaf's cell is the stub of the key's record.
func TestP132Bytes(t *testing.T) {
	first := database(1)[0]
	for i, c := range []struct {
		key  []api.Value
		cell string
	}{
		{key(), "\x01\x00"}, {key(nil), "\x02\x01\x00"}, {key("ab"), "\x04\x01\x11ab"}, {key(0, 1), "\x03\x02\x09\x0a"},
		{key(nil, 1, -2, 300, "ab"), "\x0b\x05\x00\x0a\x01\x02\x11\xfe\x01\x2cab"}, {key([]byte{7}), "\x03\x01\x0e\x07"},
	} {
		tx := having(t, first)
		root := grown(t, tx)
		inserts(t, tx, root, nil, c.key)
		sees(t, "one key", tx, first, leaf(c.cell))
		if i%2 == 0 {
			deletes(t, tx, root, nil, c.key)
		} else {
			want(t, "Clear", keys.Clear(tx, root), api.OK)
		}
		sees(t, "no key", tx, first, leaf())
	}
	for _, size := range edges {
		tx := having(t, first)
		root := grown(t, tx)
		inserts(t, tx, root, nil, sized(size, 1))
		pages := append([]api.Page{first}, make([]api.Page, 1+pagesFor(size))...)
		pages[1] = leaf(lay(pages, recordOf(sized(size, 1)), upTo(3, 2+pagesFor(size))...))
		sees(t, "a record", tx, pages...)
		deletes(t, tx, root, nil, sized(size, 1))
		tells(t, tx, root, nil)
		frees(t, "taken out", tx, upTo(3, 2+pagesFor(size))...)
	}
}

// TestP132There: a key that is there, or one that is the same, is not put in again; nothing changes.
func TestP132There(t *testing.T) {
	for _, h := range allByHand() {
		tx := having(t, h.pages...)
		for _, k := range h.rows {
			refuses(t, h.what, tx, insert(h.root, h.order, k), api.ErrThere)
		}
	}
	h := collated()
	for i, k := range [][]api.Value{key("a"), key("B"), key("c"), key("D"), key("e")} {
		refuses(t, "other letters", having(t, h[0].pages...), insert(h[0].root, h[0].order, k), api.ErrThere)
		tx := having(t, h[0].pages...)
		deletes(t, tx, h[0].root, h[0].order, k)
		tells(t, tx, h[0].root, h[0].order, slices.Delete(slices.Clone(h[0].rows), i, i+1)...)
	}
	for _, k := range [][]api.Value{key("b   "), key("a", "x"), key("a   ", "Y")} {
		refuses(t, "other blanks", having(t, h[1].pages...), insert(h[1].root, h[1].order, k), api.ErrThere)
	}
}

// kindOfKeys is keys of which each has a number, and rises with it by the orders.
type kindOfKeys struct {
	what  string
	order []api.Order
	key   func(n int) []api.Value
}

func kindsOfKeys() []kindOfKeys {
	return []kindOfKeys{
		{"integers", nil, func(n int) []api.Value { return key(n) }},
		{"falling", []api.Order{{Desc: true}}, func(n int) []api.Value { return key(-n, "x") }},
		{"records of 40 bytes", nil, func(n int) []api.Value { return sized(40, n) }},
		{"records of 41 bytes", []api.Order{{Coll: api.CollNoCase}}, func(n int) []api.Value { return sized(41, n) }},
		{"of all lengths", []api.Order{{Coll: api.CollRTrim}}, func(n int) []api.Value { return filled(key(n), 10+n*37%300, " !") }},
		{"now long, now short", nil, func(n int) []api.Value {
			if n%5 < 3 {
				return key(n)
			}
			return filled(key(n), 250, "!")
		}},
	}
}

// TestP132InAndOut: keys are put in each order, and taken out in each, of so many that the root is above inner pages.
func TestP132InAndOut(t *testing.T) {
	for _, kind := range kindsOfKeys() {
		for _, n := range []int{2, 7, 40, 130} {
			for in, puttings := range orders(n) {
				for out, takings := range orders(n) {
					if n > 40 && (in == "inwards" || out == "outwards") {
						continue
					}
					tx, root := planted(t)
					s := set{order: kind.order}
					for i, k := range puttings {
						s.add(kind.key(k))
						inserts(t, tx, root, kind.order, kind.key(k))
						if i%29 == 0 || n < 10 {
							alone(t, tx, root, s)
						}
					}
					alone(t, tx, root, s)
					if n < 10 {
						tells(t, tx, root, kind.order, s.rows...)
					}
					for i, k := range takings {
						s.remove(kind.key(k))
						deletes(t, tx, root, kind.order, kind.key(k))
						if e := keys.Delete(tx, root, kind.order, kind.key(k)); e != api.ErrNone {
							t.Fatalf("%s, %s, %s: Delete of %d again: %v", kind.what, in, out, k, e)
						}
						if i%29 == 0 || len(s.rows) < 8 {
							alone(t, tx, root, s)
						}
					}
					tells(t, tx, root, kind.order)
					sees(t, "none left", tx, with(seen(t, tx), root, leaf())...)
					frees(t, "none left", tx, upTo(3, tx.Count())...)
				}
			}
		}
	}
}

// height is how many levels of inner pages a tree has.
func height(pages []api.Page, root int) int {
	for levels := 0; ; levels++ {
		link, _, _ := partsOf(pages[root-1])
		if pages[root-1][0] != 4 {
			return levels
		}
		root = int(link)
	}
}

// TestP132Levels: trees grow through all heights, and get flat again.
func TestP132Levels(t *testing.T) {
	for _, kind := range kindsOfKeys()[2:] {
		tx, root := planted(t)
		met := map[int]int{}
		for n := range 250 {
			inserts(t, tx, root, kind.order, kind.key(n))
			met[height(seen(t, tx), root)]++
		}
		if met[0] == 0 || met[1] == 0 || met[2] == 0 {
			t.Errorf("%s: levels: %v", kind.what, met)
		}
		for n := range 249 {
			deletes(t, tx, root, kind.order, kind.key(n))
		}
		if l, e := keys.Pages(tx, root); e != api.OK || len(l) != 1+chainFor(kind.key(249)) {
			t.Errorf("%s: one key left: %v %v", kind.what, l, e)
		}
	}
}

// TestP132RootStays: the root's number is the tree's for good, whatever its page becomes.
func TestP132RootStays(t *testing.T) {
	tx := having(t, database(9, 7, 3, 5)...)
	root := grown(t, tx)
	s := set{}
	for n := range 90 {
		s.add(filled(key(n), 20, "!"))
		inserts(t, tx, root, nil, filled(key(n), 20, "!"))
		stands(t, seen(t, tx), root, nil, s.rows)
	}
	for n := range 90 {
		s.remove(filled(key(n), 20, "!"))
		deletes(t, tx, root, nil, filled(key(n), 20, "!"))
		stands(t, seen(t, tx), root, nil, s.rows)
	}
	if root != 7 {
		t.Errorf("the root %d", root)
	}
}

// TestP132ByHand: each key of trees that were laid by hand is taken out, and keys are put between.
func TestP132ByHand(t *testing.T) {
	for _, h := range allByHand() {
		try := func(s set, change func(tx *store.Tx)) {
			t.Helper()
			tx := having(t, h.pages...)
			change(tx)
			own, chains := stands(t, seen(t, tx), h.root, h.order, s.rows)
			after, e := keys.Pages(tx, h.root)
			if all := slices.Sorted(slices.Values(slices.Concat(own, chains))); e != api.OK || !slices.Equal(after, all) {
				t.Fatalf("%s: Pages: %v %v, not %v", h.what, after, e, all)
			}
			if got := from(t, tx, h.root, h.order, nil); !same(got, s.rows) {
				t.Fatalf("%s: %d keys, not %d", h.what, len(got), len(s.rows))
			}
			want(t, "Release", tx.Release(1), api.ErrNone)
		}
		for _, k := range h.rows {
			s := set{h.order, h.rows}
			s.remove(k)
			try(s, func(tx *store.Tx) { deletes(t, tx, h.root, h.order, k) })
		}
		for _, k := range [][]api.Value{
			key(), key(nil), key(-100), key(3), key(7), key(11), key(20, "x"), key(26), key(100), key("a"), key("b", "x"), key("zz"), key([]byte("zz")),
			numbered(12, 600), numbered(25, 41), numbered(55, 40), sized(41, 35), sized(4000, 5), sized(4000, 39), sized(4000, 99),
		} {
			s := set{h.order, h.rows}
			if s.add(k) {
				try(s, func(tx *store.Tx) { inserts(t, tx, h.root, h.order, k) })
			}
		}
	}
}

// TestP132Apart: a key and the one that stands above it in an inner page have chains of their own: each goes without the other.
func TestP132Apart(t *testing.T) {
	tx, root := planted(t)
	s := set{}
	for n := range 30 {
		s.add(sized(300, n))
		inserts(t, tx, root, nil, sized(300, n))
	}
	f, wrong := lookThrough(seen(t, tx), root, by(nil))
	if above := len(f.chains) - 30*2; wrong != "" || above < 8 {
		t.Fatalf("%d pages of chains for the keys above (%s)", above, wrong)
	}
	for _, n := range orders(30)["any"] {
		s.remove(sized(300, n))
		deletes(t, tx, root, nil, sized(300, n))
		alone(t, tx, root, s)
	}
}
