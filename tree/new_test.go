package tree_test

import (
	"testing"

	"bureau/api"
	"bureau/disk"
	"bureau/space"
	"bureau/store"
	"bureau/tree"
)

// TestP121New: the root is a leaf without cells, in a free page or one more at the end; all other pages are as they were.
func TestP121New(t *testing.T) {
	for _, c := range []struct {
		pages []api.Page
		root  int
		after []api.Page
	}{
		{database(1), 2, append(database(1), leaf())},
		{database(4), 5, append(database(4), leaf())},
		{database(4, 3), 3, with(database(4), 3, leaf())},
		{database(6, 5, 2), 5, with(database(6, 2), 5, leaf())},
		{database(6, 2, 3, 4, 5, 6), 2, with(database(6, 3, 4, 5, 6), 2, leaf())},
	} {
		tx := having(t, c.pages...)
		if root := grown(t, tx); root != c.root {
			t.Fatalf("the root %d, not %d", root, c.root)
		}
		sees(t, "New", tx, c.after...)
		tells(t, tx, c.root)
		want(t, "Release", tx.Release(1), api.ErrNone)
	}
}

// TestP121Many: each tree has a root of its own, and stays without rows whatever is put into another.
func TestP121Many(t *testing.T) {
	eachWay(t, func(t *testing.T, log bool) {
		s, tx := laid(t, log)
		for root := 2; root < 40; root++ {
			if n := grown(t, tx); n != root {
				t.Fatalf("the root %d, not %d", n, root)
			}
		}
		for key := range int64(100) {
			puts(t, tx, 20, key, "x", true)
		}
		want(t, "Commit", tx.Commit(), api.OK)
		tx = reading(t, s)
		for root := 2; root < 40; root++ {
			if root != 20 {
				tells(t, tx, root)
			}
		}
	})
}

// TestP121Full: there is no page for the root.
func TestP121Full(t *testing.T) {
	tx := having(t, database(api.MaxPages)...)
	refuses(t, "full", tx, makes(), api.ErrFull)
	want(t, "Give", space.Give(tx, 77), api.OK)
	if root := grown(t, tx); root != 77 {
		t.Fatalf("the root %d", root)
	}
	refuses(t, "full again", tx, makes(), api.ErrFull)
}

// TestP121NotLaid: page 1 is no first page, or the first free page is none.
func TestP121NotLaid(t *testing.T) {
	refuses(t, "no pages", having(t), makes(), api.ErrBad)
	for _, first := range []api.Page{{}, leaf(), used(1), raw(0, 0, "bureau 1"), {0: 77}} {
		refuses(t, "no first page", having(t, with(database(3, 2), 1, first)...), makes(), api.ErrBad)
	}
	for _, p := range []api.Page{leaf(), used(1), raw(0, 0, "cell"), {1: 9}} {
		refuses(t, "no free page", having(t, with(database(3, 2), 2, p)...), makes(), api.ErrBad)
	}
	for _, link := range []uint32{1, 4, 4097, 1 << 31} {
		refuses(t, "a free page that is none", having(t, with(database(3), 1, firstPage(link))...), makes(), api.ErrBad)
	}
	full := with(database(api.MaxPages), 1, used(1))
	refuses(t, "full, and not laid", having(t, full...), makes(), api.ErrBad)
}

// everyCall is all functions, each with arguments that ought to be refused if the transaction is not, or the tree.
func everyCall(root int) []call {
	return append(ofRoot(root, 5), makes(), put(root, 5, dataOf(4001, 0)))
}

// TestP12NoTransaction: without one, and with one that no call made, all calls answer ErrNil, whatever else is wrong.
func TestP12NoTransaction(t *testing.T) {
	for _, tx := range []*store.Tx{nil, {}} {
		for _, root := range []int{-1, 0, 1, 2} {
			for _, c := range everyCall(root) {
				if answer, e := c.does(tx); answer || e != api.ErrNil {
					t.Errorf("%s: %v %v", c.name, answer, e)
				}
			}
		}
	}
}

// TestP12Over: with a transaction that is over all calls answer ErrOver, whatever else is wrong.
func TestP12Over(t *testing.T) {
	ends := map[string]func(d *disk.Disk, tx *store.Tx){
		"Commit":   func(_ *disk.Disk, tx *store.Tx) { want(t, "Commit", tx.Commit(), api.OK) },
		"Rollback": func(_ *disk.Disk, tx *store.Tx) { want(t, "Rollback", tx.Rollback(), api.OK) },
		"Crash": func(d *disk.Disk, tx *store.Tx) {
			d.CrashIn(1)
			d.Write("other", 0, "x")
		},
	}
	for name, end := range ends {
		for _, writes := range []bool{true, false} {
			for _, lays := range []bool{true, false} {
				d := disk.New(plenty)
				tx := reading(t, opened(t, d, false))
				if writes {
					want(t, "Write", tx.Write(), api.OK)
				}
				if writes && lays {
					want(t, "Lay", space.Lay(tx), api.OK)
					grown(t, tx)
				}
				end(d, tx)
				for _, root := range []int{-1, 0, 1, 2} {
					for _, c := range everyCall(root) {
						if answer, e := c.does(tx); answer || e != api.ErrOver {
							t.Errorf("%s: %s: %v %v", name, c.name, answer, e)
						}
					}
				}
			}
		}
	}
}

// TestP12OnlyReads: a transaction that only reads reads, and changes nothing: ErrRead, ahead of ErrLong, ErrBad and ErrNone.
func TestP12OnlyReads(t *testing.T) {
	eachWay(t, func(t *testing.T, log bool) {
		s, tx := laid(t, log)
		root := grown(t, tx)
		puts(t, tx, root, 7, "seven", true)
		want(t, "Commit", tx.Commit(), api.OK)
		tx = reading(t, s)
		tells(t, tx, root, api.RowAt{Key: 7, Data: "seven"})
		for _, r := range []int{root, -1, 0, 1, 99} {
			for _, c := range everyCall(r) {
				if !c.reads {
					refuses(t, "only reads", tx, c, api.ErrRead)
				} else if r != root {
					refuses(t, "no root", tx, c, api.ErrBad)
				}
			}
		}
	})
	tx := reading(t, opened(t, disk.New(plenty), false))
	for _, c := range everyCall(2) {
		wanted := api.ErrBad
		if !c.reads {
			wanted = api.ErrRead
		}
		refuses(t, "not laid, only reads", tx, c, wanted)
	}
}

// TestP12Long: data of more than MaxRecord bytes are ErrLong, ahead of ErrBad and ErrFull.
func TestP12Long(t *testing.T) {
	for _, length := range []int{4001, 4002, 5000, 100000} {
		tx, root := planted(t)
		refuses(t, "long", tx, put(root, 5, dataOf(length, 0)), api.ErrLong)
		puts(t, tx, root, 5, "five", true)
		for _, r := range []int{root, 0, 1, 77} {
			refuses(t, "long", tx, put(r, 5, dataOf(length, 0)), api.ErrLong)
		}
		refuses(t, "long, not laid", having(t), put(2, 5, dataOf(length, 0)), api.ErrLong)
		full := with(database(api.MaxPages), 2, leaf())
		refuses(t, "long, full", having(t, full...), put(2, 5, dataOf(length, 0)), api.ErrLong)
	}
	tx, root := planted(t)
	puts(t, tx, root, 5, dataOf(4000, 0), true)
	tells(t, tx, root, api.RowAt{Key: 5, Data: dataOf(4000, 0)})
}

// TestP12Roots: what is no root of a tree is ErrBad for all calls, ahead of ErrNone and ErrFull.
func TestP12Roots(t *testing.T) {
	others := []api.Page{{}, raw(0, 3), raw(3, 0, "key"), raw(4, 0, "key"), raw(5, 0, "piece"), raw(3, 0), raw(4, 0), {0: 6}, {0: 1, 255: 1}, {0: 2}}
	for _, p := range others {
		for _, full := range []int{4, api.MaxPages} {
			if full > 4 && p != others[0] {
				continue
			}
			tx := having(t, with(database(full), 3, p)...)
			for _, c := range ofRoot(3, 5) {
				refuses(t, "no root", tx, c, api.ErrBad)
			}
		}
	}
	tx := having(t, with(database(4), 2, leaf())...)
	for _, root := range []int{least, -1 << 40, -2, -1, 0, 1, 5, 6, 4096, 4097, 1 << 32, 1<<32 + 2, most} {
		for _, c := range ofRoot(root, 5) {
			refuses(t, "no root", tx, c, api.ErrBad)
		}
	}
	tells(t, tx, 2)
}

// TestP12NotLaid: no call takes a tree in a database that is not laid, be it as it should be otherwise; not even page 1 is a root.
func TestP12NotLaid(t *testing.T) {
	for _, first := range []api.Page{{}, leaf(), leaf(row(5, "five")), used(1), raw(0, 0, "bureau 1"), {0: 77}} {
		tx := having(t, with(with(database(4), 2, leaf(row(5, "five"))), 1, first)...)
		for _, root := range []int{1, 2} {
			for _, c := range ofRoot(root, 5) {
				refuses(t, "not laid", tx, c, api.ErrBad)
			}
		}
	}
	for _, c := range ofRoot(1, 5) {
		refuses(t, "no pages", having(t), c, api.ErrBad)
	}
}

// TestP12Examples: those of the chapter.
func TestP12Examples(t *testing.T) {
	tx, r := planted(t)
	puts(t, tx, r, 5, "b", true)
	puts(t, tx, r, -1, "a", true)
	puts(t, tx, r, 5, "c", false)
	tells(t, tx, r, api.RowAt{Key: -1, Data: "a"}, api.RowAt{Key: 5, Data: "c"})
	want(t, "Clear", tree.Clear(tx, r), api.OK)
	for key := int64(1); key <= 100; key++ {
		puts(t, tx, r, key, digits(key), true)
	}
	for key := int64(1); key <= 99; key++ {
		deletes(t, tx, r, key)
	}
	tells(t, tx, r, api.RowAt{Key: 100, Data: "100"})
	if l, e := tree.Pages(tx, r); len(l) != 1 || l[0] != r || e != api.OK {
		t.Errorf("Pages: %v %v", l, e)
	}
}
