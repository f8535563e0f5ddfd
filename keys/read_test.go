package keys_test

import (
	"slices"
	"testing"

	"bureau/api"
	"bureau/disk"
	"bureau/keys"
	"bureau/record"
	"bureau/store"
)

// TestP131ByHand: trees that were laid by hand are read as they are, by one that only reads, too.
func TestP131ByHand(t *testing.T) {
	eachWay(t, func(t *testing.T, log bool) {
		for _, h := range allByHand() {
			s := opened(t, disk.New(plenty), log)
			tx := writing(t, s)
			for i, p := range h.pages {
				want(t, "Put", tx.Put(i+1, p), api.OK)
			}
			tells(t, tx, h.root, h.order, h.rows...)
			want(t, "Commit", tx.Commit(), api.OK)
			tx = reading(t, s)
			for n := -6; n < 110 && len(h.pages) < 40; n++ {
				finds(t, tx, h.root, h.order, key(n), h.rows...)
			}
			if l, e := keys.Pages(tx, h.root); !slices.Equal(l, h.own) || e != api.OK {
				t.Fatalf("%s: Pages: %v %v, not %v", h.what, l, e, h.own)
			}
			sees(t, h.what, tx, h.pages...)
			want(t, "Release", tx.Release(1), api.ErrNone)
		}
	})
}

// TestP131From: at, between and behind the keys, across leaves whose greatest key is not that of the cell above.
func TestP131From(t *testing.T) {
	h := threeLevels()
	tx := having(t, h.pages...)
	for n, first := range map[int]int{-100: -3, -3: -3, -2: 1, 4: 4, 5: 6, 6: 6, 7: 10, 10: 10, 11: 15, 15: 15, 16: 21, 20: 21, 22: 30, 31: 31, 32: 99, 99: 99} {
		got := from(t, tx, h.root, nil, key(n))
		if !record.Same(got[0], key(first)) || !same(got, h.rows[len(h.rows)-len(got):]) {
			t.Errorf("From %d: %v, not from %d on", n, got, first)
		}
		got = from(t, tx, h.root, nil, key(n, nil))
		if n == first && len(got) > 0 && record.Cmp(got[0], key(n), nil) <= 0 {
			t.Errorf("From behind %d: %v", n, got)
		}
	}
	for _, k := range [][]api.Value{key(100), key("a"), key(99, nil)} {
		if got := from(t, tx, h.root, nil, k); len(got) != 0 {
			t.Errorf("From behind all keys: %v", got)
		}
	}
	for _, k := range [][]api.Value{nil, {}, key(nil), key(-4)} {
		if got := from(t, tx, h.root, nil, k); !same(got, h.rows) {
			t.Errorf("From ahead of all keys: %v", got)
		}
	}
}

// TestP131AsPut: keys come as they were put in, also where they are asked for by others that are the same.
func TestP131AsPut(t *testing.T) {
	for _, c := range []struct {
		order []api.Order
		put   []api.Value
		asked [][]api.Value
	}{
		{[]api.Order{{Coll: api.CollNoCase}}, key("aBc", "X"), [][]api.Value{key("abc", "X"), key("ABC", "X")}},
		{[]api.Order{{Coll: api.CollRTrim}}, key("a  "), [][]api.Value{key("a"), key("a      ")}},
		{[]api.Order{{}, {Coll: api.CollNoCase, Desc: true}}, key(7, "q", nil), [][]api.Value{key(7, "Q", nil)}},
		{[]api.Order{{Coll: api.CollNoCase}, {Coll: api.CollRTrim}}, key("Q ", "Q "), [][]api.Value{key("q ", "Q"), key("q ", "Q   ")}},
	} {
		tx, root := planted(t)
		inserts(t, tx, root, c.order, c.put)
		for _, k := range append(c.asked, c.put) {
			if is, e := keys.Has(tx, root, c.order, k); !is || e != api.OK {
				t.Errorf("Has of %v: %v %v", k, is, e)
			}
			if got := from(t, tx, root, c.order, k); !same(got, [][]api.Value{c.put}) {
				t.Errorf("From %v: %v", k, got)
			}
			refuses(t, "the same", tx, insert(root, c.order, k), api.ErrThere)
		}
		for _, k := range c.asked {
			if is, e := keys.Has(tx, root, nil, k); is || e != api.OK {
				t.Errorf("Has of %v by no orders: %v %v", k, is, e)
			}
			deletes(t, tx, root, c.order, k)
			tells(t, tx, root, c.order)
			inserts(t, tx, root, c.order, c.put)
		}
	}
}

// TestP131Orders: how keys stand by orders, told one by one.
func TestP131Orders(t *testing.T) {
	for _, c := range []struct {
		what  string
		order []api.Order
		rows  [][]api.Value
	}{
		{"none", nil, [][]api.Value{key(), key(nil), key(nil, nil), key(-5), key(9), key(10), key("B"), key("a"), key("a "), key([]byte("a"))}},
		{"falling", []api.Order{{Desc: true}}, [][]api.Value{key(), key([]byte("a")), key("a "), key("a"), key("B"), key(10), key(9), key(-5), key(nil), key(nil, nil)}},
		{"no case", []api.Order{{Coll: api.CollNoCase}}, [][]api.Value{key("a", "B"), key("A", "a"), key("a", "b"), key("B"), key("b", nil), key("c")}},
		{"blanks", []api.Order{{Coll: api.CollRTrim}}, [][]api.Value{key("  "), key(" a  "), key("a  "), key("a", nil), key("a!"), key("b ")}},
		{"two", []api.Order{{Coll: api.CollNoCase, Desc: true}, {Coll: api.CollRTrim}}, [][]api.Value{key("B"), key("b", 1), key("B", 2), key("b", "x  "), key("b", "x", 0), key("a", "x"), key("A", "y")}},
		{"more than values", []api.Order{{Desc: true}, {Desc: true}, {Desc: true}, {Desc: true}}, [][]api.Value{key(), key(2), key(2, 5), key(2, 4), key(1), key(1, "x"), key(1, "x", 7), key(1, "w")}},
		{"fewer than values", []api.Order{{Desc: true}}, [][]api.Value{key(2, 1), key(2, 2), key(1, 1, "a"), key(1, 1, "b"), key(1, 2)}},
		{"no such collation", []api.Order{{Coll: 9}, {Coll: -1, Desc: true}}, [][]api.Value{key("A", "b"), key("A", "B"), key("a", "b")}},
	} {
		for name, way := range orders(len(c.rows)) {
			tx, root := planted(t)
			s := set{order: c.order}
			for _, i := range way {
				inserts(t, tx, root, c.order, c.rows[i])
				s.add(c.rows[i])
			}
			if got := from(t, tx, root, c.order, nil); !same(got, c.rows) || !same(s.rows, c.rows) {
				t.Errorf("%s, put %s: %v, not %v", c.what, name, got, c.rows)
			}
			tells(t, tx, root, c.order, c.rows...)
		}
	}
}

// TestP131OnlyPagesMet: what is wrong with pages that a call does not meet is not its error.
func TestP131OnlyPagesMet(t *testing.T) {
	h := threeLevels()
	for _, n := range []int{2, 4, 5, 10, 3} {
		tx := having(t, with(h.pages, n, used(0))...)
		if is, e := keys.Has(tx, h.root, nil, key(1)); !is || e != api.OK {
			t.Errorf("Has beside a wrong page %d: %v %v", n, is, e)
		}
		inserts(t, tx, h.root, nil, key(2))
		refuses(t, "there", tx, insert(h.root, nil, key(4)), api.ErrThere)
		refuses(t, "not there", tx, del(h.root, nil, key(3)), api.ErrNone)
	}
	for _, n := range []int{2, 8, 11} {
		tx := having(t, with(h.pages, n, used(0))...)
		if got := from(t, tx, h.root, nil, key(11)); !same(got, h.rows[5:]) {
			t.Errorf("From behind a wrong page %d: %v", n, got)
		}
	}
}

// TestP131BrokenOff: a walk may be left early at each key, and gone over again; two of them go side by side.
func TestP131BrokenOff(t *testing.T) {
	for _, h := range allByHand() {
		tx := having(t, h.pages...)
		rows, e := keys.From(tx, h.root, h.order, nil)
		want(t, "From", e, api.OK)
		for left := range len(h.rows) + 1 {
			var got [][]api.Value
			for k := range rows {
				if len(got) == left {
					break
				}
				got = append(got, k)
			}
			if !same(got, h.rows[:left]) {
				t.Fatalf("%s: %d keys ahead of a break at %d", h.what, len(got), left)
			}
		}
		var pairs int
		for a := range rows {
			for b := range rows {
				if record.Same(a, b) {
					pairs++
				}
			}
		}
		if pairs != len(h.rows) || !same(slices.Collect(rows), h.rows) {
			t.Fatalf("%s: %d pairs of %d keys", h.what, pairs, len(h.rows))
		}
	}
}

// TestP131Stays: From tells what there was when it was called, whatever is done with the tree during the walk, or ahead of it.
func TestP131Stays(t *testing.T) {
	changes := map[string]func(tx *store.Tx, h byHand, k []api.Value){
		"Delete": func(tx *store.Tx, h byHand, k []api.Value) { keys.Delete(tx, h.root, h.order, k) },
		"Insert": func(tx *store.Tx, h byHand, k []api.Value) { keys.Insert(tx, h.root, h.order, append(k, api.Value{})) },
		"long": func(tx *store.Tx, h byHand, k []api.Value) {
			keys.Insert(tx, h.root, h.order, sized(3000, int(k[0].Int)))
		},
		"Clear":    func(tx *store.Tx, h byHand, k []api.Value) { keys.Clear(tx, h.root) },
		"Drop":     func(tx *store.Tx, h byHand, k []api.Value) { keys.Drop(tx, h.root) },
		"Rollback": func(tx *store.Tx, h byHand, k []api.Value) { tx.Rollback() },
		"Shrink":   func(tx *store.Tx, h byHand, k []api.Value) { tx.Shrink(0) },
	}
	for what, change := range changes {
		for _, h := range allByHand() {
			for at := 0; at <= len(h.rows); at += 4 {
				tx := having(t, h.pages...)
				var first []api.Value
				if at < len(h.rows) {
					first = h.rows[at]
				}
				wanted := h.rows[at%max(len(h.rows), 1):]
				rows, e := keys.From(tx, h.root, h.order, first)
				want(t, "From", e, api.OK)
				var got [][]api.Value
				for k := range rows {
					got = append(got, k)
					if len(k) > 0 {
						change(tx, h, slices.Clone(k))
					}
				}
				if !same(got, wanted) || !same(slices.Collect(rows), wanted) {
					t.Fatalf("%s during a walk over %s: %d keys, not %d", what, h.what, len(got), len(wanted))
				}
			}
		}
	}
}

// TestP131OwnMemory: keys that are handed over are the caller's own; what was handed in is neither changed nor kept, spare room included.
func TestP131OwnMemory(t *testing.T) {
	h := collated()[0]
	tx := having(t, h.pages...)
	order := append(make([]api.Order, 0, 4), h.order...)
	asked := append(make([]api.Value, 0, 4), key("A")...)
	rows, e := keys.From(tx, h.root, order, asked)
	want(t, "From", e, api.OK)
	order[0], asked[0] = api.Order{Desc: true}, key("zz")[0]
	for range 2 {
		var got [][]api.Value
		for k := range rows {
			got = append(got, slices.Clone(k))
			k[0] = key("spoilt")[0]
			_ = append(k, key("spoilt")...)
		}
		if !same(got, h.rows) {
			t.Fatalf("From: %v", got)
		}
	}
	order[0], asked[0] = h.order[0], key("new")[0]
	spareOrder, spareKey := order[:4], asked[:4]
	spareOrder[3], spareKey[3] = api.Order{Coll: 7}, key(77)[0]
	ordersBefore, keyBefore := slices.Clone(spareOrder), slices.Clone(spareKey)
	for _, c := range []call{insert(h.root, order, asked), has(h.root, order, asked), goesOver(h.root, order, asked), del(h.root, order, asked), insert(h.root, order, asked)} {
		_, e := c.does(tx)
		want(t, c.name, e, api.OK)
		if !slices.Equal(ordersBefore, spareOrder) || !slices.Equal(keyBefore, spareKey) {
			t.Fatalf("%s changed what was handed in", c.name)
		}
	}
	asked[0] = key("spoilt")[0]
	if is, e := keys.Has(tx, h.root, h.order, key("new")); !is || e != api.OK {
		t.Errorf("Has of what was put: %v %v", is, e)
	}
}

// TestP13Missing: no such key.
func TestP13Missing(t *testing.T) {
	for _, h := range allByHand() {
		s := set{order: h.order, rows: h.rows}
		tx := having(t, h.pages...)
		for _, k := range [][]api.Value{key(), key(nil, 1), key(-77), key(5), key(20), key(40, "x"), key("zz"), key([]byte("zz")), sized(4000, 1234)} {
			if _, is := s.place(k); !is {
				refuses(t, h.what, tx, del(h.root, h.order, k), api.ErrNone)
				if is, e := keys.Has(tx, h.root, h.order, k); is || e != api.OK {
					t.Errorf("%s: Has of %v: %v %v", h.what, k, is, e)
				}
			}
		}
	}
}
