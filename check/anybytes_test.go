package check_test

import (
	"math/rand"
	"slices"
	"testing"

	"bureau/api"
	"bureau/disk"
	"bureau/keys"
	"bureau/space"
	"bureau/store"
	"bureau/tree"
)

// agrees fails the test unless all calls answer what the words say; it tells whether the pages are whole.
func agrees(t *testing.T, what string, pages []api.Page, forest []api.Root) bool {
	t.Helper()
	e, _ := wholeBy(pages, forest)
	whole(t, what, pages, forest, e)
	if free, e := freeBy(pages); e == api.OK {
		frees(t, what, pages, free)
	} else {
		noFree(t, what, pages)
	}
	for _, r := range forest {
		agreesAt(t, what, pages, r)
	}
	return e == api.OK
}

// TestP14AnyByte: whatever stands in a byte, all calls answer what the words say.
func TestP14AnyByte(t *testing.T) {
	for _, d := range small() {
		good, bad := 0, 0
		for i, p := range d.pages {
			for at := range p {
				if at > 160 && at < 240 && at%16 > 0 { // of the many noughts behind the cells some will do
					continue
				}
				for _, b := range []byte{0, 1, p[at] + 1, p[at] ^ 0x80, p[at] - 1, 61} {
					q := p
					q[at] = b
					if agrees(t, d.what, with(d.pages, i+1, q), d.forest) {
						good++
					} else {
						bad++
					}
					if t.Failed() {
						t.Fatalf("page %d, the byte %d is %d", i+1, at, b)
					}
				}
			}
		}
		if good < 100 || bad < 100 {
			t.Errorf("%s: %d are whole, %d are not", d.what, good, bad)
		}
	}
}

// TestP14AnyNumber: wherever the number of a page stands, another one is put there.
func TestP14AnyNumber(t *testing.T) {
	for _, d := range small() {
		for i, p := range d.pages {
			for at := 2; at+4 <= len(p); at++ {
				if n := valueOf(string(p[at : at+4])); at > 2 && (n < 2 || n > uint64(len(d.pages))) {
					continue
				}
				for n := range len(d.pages) + 2 {
					q := p
					copy(q[at:], fourBytes(n))
					agrees(t, d.what, with(d.pages, i+1, q), d.forest)
				}
				if t.Failed() {
					t.Fatalf("page %d, the byte %d", i+1, at)
				}
			}
		}
	}
}

// TestP14Exchanged: two pages in each other's place, one in the place of another, pages cut off at the end.
func TestP14Exchanged(t *testing.T) {
	for _, d := range small() {
		for i := range d.pages {
			for j := range d.pages {
				agrees(t, "one in the place of another", with(d.pages, i+1, d.pages[j]), d.forest)
				agrees(t, "in each other's place", with(with(d.pages, i+1, d.pages[j]), j+1, d.pages[i]), d.forest)
			}
			agrees(t, "cut off", d.pages[:i], d.forest)
			agrees(t, "cut off, no forest", d.pages[:i], nil)
		}
	}
}

// TestP14Rubbish: of pages of any bytes, and of many that are spoilt at a time, all calls answer what the words say.
func TestP14Rubbish(t *testing.T) {
	r := rand.New(rand.NewSource(14))
	for range 300 {
		d := small()[r.Intn(2)]
		pages := slices.Clone(d.pages)
		for range 1 + r.Intn(12) {
			p := &pages[r.Intn(len(pages))]
			switch r.Intn(4) {
			case 0:
				for at := range p {
					p[at] = byte(r.Int())
				}
			case 1:
				*p = raw(byte(r.Intn(7)), r.Intn(len(pages)+2))
			case 2:
				*p = pages[r.Intn(len(pages))]
			default:
				p[r.Intn(80)] = byte(r.Int() >> r.Intn(8))
			}
		}
		agrees(t, "rubbish", pages, d.forest)
		for n := 1; n <= len(pages); n++ {
			agreesAt(t, "rubbish", pages, api.Root{Page: n})
			agreesAt(t, "rubbish", pages, api.Root{Page: n, Keys: true})
		}
	}
}

// TestP143Read: pages that Whole takes are read by the layers as it says, however they were laid.
func TestP143Read(t *testing.T) {
	for _, d := range append(allLaid(), small()...) {
		s, e := store.Open(disk.New(1<<24), false)
		want(t, "Open", e)
		tx, e := s.Begin(0)
		want(t, "Begin", e)
		want(t, "Write", tx.Write())
		for i, p := range d.pages {
			want(t, "Put", tx.Put(i+1, p))
		}
		told(t, tx, d.forest)
	}
}

// want ends the test if a call was refused.
func want(t *testing.T, what string, e api.Errno) {
	t.Helper()
	if e != api.OK {
		t.Fatalf("%s: %v", what, e)
	}
}

// seen is a transaction's pages.
func seen(t *testing.T, tx *store.Tx) []api.Page {
	t.Helper()
	pages := make([]api.Page, tx.Count())
	for i := range pages {
		p, e := tx.Page(i + 1)
		want(t, "Page", e)
		pages[i] = p
	}
	return pages
}

// told fails the test unless a transaction's pages are whole with those trees, and Free, Rows and Keys tell what the layers tell.
func told(t *testing.T, tx *store.Tx, forest []api.Root) {
	t.Helper()
	pages := seen(t, tx)
	whole(t, "what the layers made", pages, forest, api.OK)
	free, e := space.Free(tx)
	want(t, "space.Free", e)
	frees(t, "what the layers made", pages, free)
	for _, r := range forest {
		if r.Keys {
			rows, e := keys.From(tx, r.Page, r.Order, nil)
			want(t, "From", e)
			hasKeys(t, "what the layers made", pages, r.Page, r.Order, slices.Collect(rows))
		} else {
			rows, e := tree.All(tx, r.Page)
			want(t, "All", e)
			hasRows(t, "what the layers made", pages, r.Page, slices.Collect(rows))
		}
	}
}
