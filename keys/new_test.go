package keys_test

import (
	"math"
	"testing"

	"bureau/api"
	"bureau/disk"
	"bureau/keys"
	"bureau/space"
	"bureau/store"
)

// TestP131New: the root is a leaf without cells, in a free page or one more at the end; all other pages are as they were.
func TestP131New(t *testing.T) {
	for _, c := range []struct {
		pages []api.Page
		root  int
		after []api.Page
	}{
		{database(1), 2, append(database(1), leaf())},
		{database(4), 5, append(database(4), leaf())},
		{database(4, 3), 3, with(database(4), 3, leaf())},
		{database(6, 5, 2), 5, with(database(6, 2), 5, leaf())},
		{database(6, 2, 3, 4, 5, 6), 2, with(database(6, 3, 4, 5, 6), 2, leaf())},
	} {
		tx := having(t, c.pages...)
		if root := grown(t, tx); root != c.root {
			t.Fatalf("the root %d, not %d", root, c.root)
		}
		sees(t, "New", tx, c.after...)
		tells(t, tx, c.root, nil)
		want(t, "Release", tx.Release(1), api.ErrNone)
	}
}

// TestP131Many: each tree has a root of its own, and stays without keys whatever is put into another.
func TestP131Many(t *testing.T) {
	eachWay(t, func(t *testing.T, log bool) {
		s, tx := laid(t, log)
		for root := 2; root < 30; root++ {
			if n := grown(t, tx); n != root {
				t.Fatalf("the root %d, not %d", n, root)
			}
		}
		for i := range 100 {
			inserts(t, tx, 20, nil, key(i))
		}
		want(t, "Commit", tx.Commit(), api.OK)
		tx = reading(t, s)
		for root := 2; root < 30; root++ {
			if root != 20 {
				tells(t, tx, root, nil)
			}
		}
	})
}

// TestP131NewFull: there is no page for the root.
func TestP131NewFull(t *testing.T) {
	tx := having(t, database(api.MaxPages)...)
	refuses(t, "full", tx, makes(), api.ErrFull)
	want(t, "Give", space.Give(tx, 77), api.OK)
	if root := grown(t, tx); root != 77 {
		t.Fatalf("the root %d", root)
	}
	refuses(t, "full again", tx, makes(), api.ErrFull)
}

// TestP131NewNotLaid: page 1 is no first page, or the first free page is none.
func TestP131NewNotLaid(t *testing.T) {
	refuses(t, "no pages", having(t), makes(), api.ErrBad)
	for _, first := range []api.Page{{}, leaf(), used(1), raw(0, 0, "bureau 1"), {0: 77}} {
		refuses(t, "no first page", having(t, with(database(3, 2), 1, first)...), makes(), api.ErrBad)
	}
	for _, p := range []api.Page{leaf(), used(1), raw(0, 0, "cell"), {1: 9}} {
		refuses(t, "no free page", having(t, with(database(3, 2), 2, p)...), makes(), api.ErrBad)
	}
	for _, link := range []uint32{1, 4, 4097, 1 << 31} {
		refuses(t, "a free page that is none", having(t, with(database(3), 1, firstPage(link))...), makes(), api.ErrBad)
	}
	full := with(database(api.MaxPages), 1, used(1))
	refuses(t, "full, and not laid", having(t, full...), makes(), api.ErrBad)
}

// mayNotBe is keys with a value that may not be, some of them too long beside that.
func mayNotBe() [][]api.Value {
	long := string(make([]byte, api.MaxValue+1))
	bad := []api.Value{
		{Kind: 4}, {Kind: -1}, {Kind: api.KindNull, Int: 1}, {Kind: api.KindNull, Text: "x"}, {Kind: api.KindInt, Text: "x"},
		{Kind: api.KindText, Int: 1}, {Kind: api.KindBlob, Int: 1}, {Kind: api.KindText, Text: long}, {Kind: api.KindBlob, Text: long},
	}
	var rows [][]api.Value
	for _, v := range bad {
		rows = append(rows, []api.Value{v}, append(key(1, "a"), v), append([]api.Value{v}, key(1, "a")...), append(make([]api.Value, api.MaxCols), v), append(tooLong()[0], v))
	}
	return rows
}

// tooLong is keys of more than MaxCols values, or of a record of more than MaxRecord bytes.
func tooLong() [][]api.Value {
	var wide, wider []api.Value
	for range 10 {
		wide = append(wide, key(string(make([]byte, 400)))...)
	}
	for range 16 {
		wider = append(wider, key(make([]byte, 400))...)
	}
	most := sized(api.MaxRecord, 1)
	return [][]api.Value{wide, make([]api.Value, api.MaxCols+1), make([]api.Value, 1000), wider, append(most, api.Value{}), append(wider, key(1)...)}
}

// everyCall is all functions, each with arguments that ought to be refused if the transaction is not, or the tree.
func everyCall(root int) []call {
	all := append(ofRoot(root, nil, key(5)), makes())
	for _, k := range append(mayNotBe()[:3], tooLong()...) {
		all = append(all, ofKey(root, nil, k)...)
	}
	return all
}

// TestP13NoTransaction: without one, and with one that no call made, all calls answer ErrNil, whatever else is wrong.
func TestP13NoTransaction(t *testing.T) {
	for _, tx := range []*store.Tx{nil, {}} {
		for _, root := range []int{-1, 0, 1, 2} {
			for _, c := range everyCall(root) {
				if answer, e := c.does(tx); answer || e != api.ErrNil {
					t.Errorf("%s: %v %v", c.name, answer, e)
				}
			}
		}
	}
}

// TestP13Over: with a transaction that is over all calls answer ErrOver, whatever else is wrong.
func TestP13Over(t *testing.T) {
	ends := map[string]func(d *disk.Disk, tx *store.Tx){
		"Commit":   func(_ *disk.Disk, tx *store.Tx) { want(t, "Commit", tx.Commit(), api.OK) },
		"Rollback": func(_ *disk.Disk, tx *store.Tx) { want(t, "Rollback", tx.Rollback(), api.OK) },
		"Crash": func(d *disk.Disk, tx *store.Tx) {
			d.CrashIn(1)
			d.Write("other", 0, "x")
		},
	}
	for name, end := range ends {
		for _, writes := range []bool{true, false} {
			for _, lays := range []bool{true, false} {
				d := disk.New(plenty)
				tx := reading(t, opened(t, d, false))
				if writes {
					want(t, "Write", tx.Write(), api.OK)
				}
				if writes && lays {
					want(t, "Lay", space.Lay(tx), api.OK)
					grown(t, tx)
				}
				end(d, tx)
				for _, root := range []int{-1, 0, 1, 2} {
					for _, c := range everyCall(root) {
						if answer, e := c.does(tx); answer || e != api.ErrOver {
							t.Errorf("%s: %s: %v %v", name, c.name, answer, e)
						}
					}
				}
			}
		}
	}
}

// TestP13OnlyReads: a transaction that only reads reads, and changes nothing: ErrRead, ahead of ErrArg, ErrLong, ErrBad, ErrThere and ErrNone.
func TestP13OnlyReads(t *testing.T) {
	eachWay(t, func(t *testing.T, log bool) {
		s, tx := laid(t, log)
		root := grown(t, tx)
		inserts(t, tx, root, nil, key(5))
		want(t, "Commit", tx.Commit(), api.OK)
		tx = reading(t, s)
		tells(t, tx, root, nil, key(5))
		for _, r := range []int{root, -1, 0, 1, 99} {
			for _, c := range everyCall(r) {
				if !c.reads {
					refuses(t, "only reads", tx, c, api.ErrRead)
				}
			}
			if r == root {
				continue
			}
			for _, c := range ofRoot(r, nil, key(5)) {
				if c.reads {
					refuses(t, "no root", tx, c, api.ErrBad)
				}
			}
		}
	})
	tx := reading(t, opened(t, disk.New(plenty), false))
	for _, c := range append(ofRoot(2, nil, key(5)), makes()) {
		wanted := api.ErrBad
		if !c.reads {
			wanted = api.ErrRead
		}
		refuses(t, "not laid, only reads", tx, c, wanted)
	}
}

// TestP13Keys: a key that may not be is ErrArg, one that is too long ErrLong, in this order, ahead of ErrBad, ErrThere, ErrNone and ErrFull.
func TestP13Keys(t *testing.T) {
	tx, root := planted(t)
	inserts(t, tx, root, nil, key(1, "a"))
	full := having(t, with(database(api.MaxPages), 2, leaf(short(key(1))))...)
	for wanted, rows := range map[api.Errno][][]api.Value{api.ErrArg: mayNotBe(), api.ErrLong: tooLong()} {
		for _, k := range rows {
			for _, r := range []int{root, 0, 1, 77, -5} {
				for _, c := range ofKey(r, nil, k) {
					refuses(t, "a key", tx, c, wanted)
				}
			}
			for _, c := range ofKey(2, nil, k) {
				refuses(t, "a key, not laid", having(t), c, wanted)
			}
		}
		for _, c := range ofKey(2, nil, rows[0]) {
			refuses(t, "a key, full", full, c, wanted)
		}
	}
	tells(t, tx, root, nil, key(1, "a"))
	most, none := make([]api.Value, api.MaxCols), key()
	for _, k := range [][]api.Value{sized(api.MaxRecord, 1), most, none} {
		inserts(t, tx, root, nil, k)
	}
	tells(t, tx, root, nil, none, most, key(1, "a"), sized(api.MaxRecord, 1))
}

// TestP13Roots: what is no root of a tree is ErrBad for all calls, ahead of ErrNone and ErrFull.
func TestP13Roots(t *testing.T) {
	others := []api.Page{{}, raw(0, 3), raw(1, 0, "row"), raw(2, 0, "row"), raw(5, 0, "piece"), raw(1, 0), raw(2, 0), {0: 6}, {0: 3, 255: 1}, {0: 4}}
	for _, p := range others {
		for _, full := range []int{4, api.MaxPages} {
			if full > 4 && p != others[0] {
				continue
			}
			tx := having(t, with(database(full), 3, p)...)
			for _, c := range ofRoot(3, nil, key(5)) {
				refuses(t, "no root", tx, c, api.ErrBad)
			}
		}
	}
	tx := having(t, with(database(4), 2, leaf())...)
	for _, root := range []int{math.MinInt, -1 << 40, -2, -1, 0, 1, 5, 6, 4096, 4097, 1 << 32, 1<<32 + 2, math.MaxInt} {
		for _, c := range ofRoot(root, nil, key(5)) {
			refuses(t, "no root", tx, c, api.ErrBad)
		}
	}
	tells(t, tx, 2, nil)
}

// TestP13NotLaid: no call takes a tree in a database that is not laid, be it as it should be otherwise; not even page 1 is a root.
func TestP13NotLaid(t *testing.T) {
	for _, first := range []api.Page{{}, leaf(), leaf(short(key(5))), used(1), raw(0, 0, "bureau 1"), {0: 77}} {
		tx := having(t, with(with(database(4), 2, leaf(short(key(5)))), 1, first)...)
		for _, root := range []int{1, 2} {
			for _, c := range ofRoot(root, nil, key(5)) {
				refuses(t, "not laid", tx, c, api.ErrBad)
			}
		}
	}
	for _, c := range ofRoot(1, nil, key(5)) {
		refuses(t, "no pages", having(t), c, api.ErrBad)
	}
}

// TestP13Examples: those of the chapter.
func TestP13Examples(t *testing.T) {
	tx, r := planted(t)
	order := []api.Order{{Coll: api.CollNoCase}, {Desc: true}}
	for _, k := range [][]api.Value{key("b", 1), key("A", 2), key("a", 7)} {
		inserts(t, tx, r, order, k)
	}
	refuses(t, "there", tx, insert(r, order, key("B", 1)), api.ErrThere)
	refuses(t, "not there", tx, del(r, order, key("a", 3)), api.ErrNone)
	tells(t, tx, r, order, key("a", 7), key("A", 2), key("b", 1))
	if got := from(t, tx, r, order, key("b")); !same(got, [][]api.Value{key("b", 1)}) {
		t.Errorf("From b: %v", got)
	}
	if is, e := keys.Has(tx, r, order, key("A", 7)); !is || e != api.OK {
		t.Errorf("Has: %v %v", is, e)
	}
}
