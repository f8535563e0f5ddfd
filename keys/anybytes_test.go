package keys_test

import (
	"math/rand"
	"slices"
	"testing"

	"bureau/api"
	"bureau/keys"
)

// ends makes a call on a tree that may be wrong: where it answers an error nothing has changed.
func ends(t *testing.T, what string, pages []api.Page, c call) api.Errno {
	t.Helper()
	tx := having(t, pages...)
	answer, e := c.does(tx)
	if e == api.OK {
		return e
	}
	if answer || !slices.Contains([]api.Errno{api.ErrBad, api.ErrThere, api.ErrNone, api.ErrFull}, e) {
		t.Fatalf("%s: %s: %v (an answer beside it: %v)", what, c.name, e, answer)
	}
	if !slices.Equal(seen(t, tx), pages) || tx.Release(1) == api.OK {
		t.Fatalf("%s: %s: %v, and something changed", what, c.name, e)
	}
	return e
}

// judged holds From and Pages against what the chapter's words say of a tree; all other calls end.
func judged(t *testing.T, what string, pages []api.Page, root int, order []api.Order, asked ...[]api.Value) {
	t.Helper()
	tx := having(t, pages...)
	f, is := lookThrough(pages, root, by(order))
	rows, e := keys.From(tx, root, order, nil)
	if is == "" && (e != api.OK || !same(slices.Collect(rows), f.rows)) || is != "" && (e != api.ErrBad || rows != nil) {
		t.Fatalf("%s (%s): From: %v", what, is, e)
	}
	f, is = lookThrough(pages, root, nil)
	numbers, e := keys.Pages(tx, root)
	if is == "" && (e != api.OK || !slices.Equal(numbers, slices.Sorted(slices.Values(slices.Concat(f.pages, f.chains))))) || is != "" && (e != api.ErrBad || numbers != nil) {
		t.Fatalf("%s (%s): Pages: %v %v", what, is, e, numbers)
	}
	for _, c := range walks(root) {
		want(t, what+": "+c.name, ends(t, what, pages, c), e)
	}
	for _, k := range asked {
		for _, c := range ofKey(root, order, k) {
			ends(t, what, pages, c)
		}
	}
}

// TestP13BytesChanged: each byte of a tree's pages is changed.
func TestP13BytesChanged(t *testing.T) {
	for _, h := range []byHand{threeLevels(), withChains(), collated()[1]} {
		tx := having(t, h.pages...)
		for _, n := range h.own {
			for place := range api.PageSize {
				p := h.pages[n-1]
				for _, b := range []byte{p[place] + 1, p[place] - 1, p[place] ^ 0x80, 0, 1, 2, 5, 8, 9, 60} {
					if place > 120 && b > 0 && h.what != "chains" {
						continue
					}
					q := p
					q[place] = b
					want(t, "Put", tx.Put(n, q), api.OK)
					f, is := lookThrough(with(h.pages, n, q), h.root, by(h.order))
					rows, e := keys.From(tx, h.root, h.order, nil)
					if is == "" && (e != api.OK || !same(slices.Collect(rows), f.rows)) || is != "" && (e != api.ErrBad || rows != nil) {
						t.Fatalf("byte %d of page %d is %d (%s): From: %v", place, n, b, is, e)
					}
				}
				want(t, "Put", tx.Put(n, p), api.OK)
			}
		}
	}
}

// TestP13AnyBytes: some bytes of any pages, or links between them, are changed at random.
func TestP13AnyBytes(t *testing.T) {
	r := rand.New(rand.NewSource(13))
	for _, h := range []byHand{threeLevels(), withChains(), collated()[0], collated()[1], longKeys(41), fullInners()[1]} {
		for range 300 {
			pages := slices.Clone(h.pages)
			for range 1 + r.Intn(3) {
				n := h.own[r.Intn(len(h.own))]
				switch r.Intn(4) {
				case 0:
					pages[n-1][r.Intn(api.PageSize)] = byte(r.Intn(256))
				case 1:
					pages[n-1][r.Intn(40)] = byte(r.Intn(30))
				case 2:
					pages[n-1] = pages[h.own[r.Intn(len(h.own))]-1]
				case 3:
					link, cells, _ := partsOf(pages[n-1])
					if len(cells) > 0 {
						i, other := r.Intn(len(cells)), fourBytes(uint32(h.own[r.Intn(len(h.own))]))
						if len(cells[i]) > 4 && r.Intn(2) == 0 {
							cells[i] = other + cells[i][4:]
						} else if len(cells[i]) > 4 {
							cells[i] = cells[i][:len(cells[i])-4] + other
						}
						pages[n-1] = raw(pages[n-1][0], link, cells...)
					}
				}
			}
			judged(t, h.what, pages, h.root, h.order, h.rows[r.Intn(len(h.rows))], key(r.Intn(60)), key(anyText(r)))
		}
	}
}

// twisted is pages that all look like pages of a tree and lead to any of them.
func twisted(r *rand.Rand, count int) []api.Page {
	pages := database(count)
	for n := 2; n <= count; n++ {
		var texts []string
		number := r.Intn(8)
		isLeaf := r.Intn(3) == 0
		for range 1 + r.Intn(3) {
			if isLeaf {
				texts = append(texts, short(key(number)))
			} else {
				texts = append(texts, child(uint32(2+r.Intn(count-1)), key(number)))
			}
			number += 1 + r.Intn(4)
		}
		if isLeaf {
			pages[n-1] = leaf(texts...)
		} else {
			pages[n-1] = inner(uint32(2+r.Intn(count-1)), texts...)
		}
	}
	return pages
}

// TestP13Twisted: pages that lead to each other anyhow, in circles, too.
func TestP13Twisted(t *testing.T) {
	r := rand.New(rand.NewSource(31))
	for range 2000 {
		pages := twisted(r, 4+r.Intn(4))
		judged(t, "twisted", pages, 2, []api.Order{{Desc: r.Intn(2) == 0}}, key(r.Intn(12)))
	}
}

// TestP13Deep: a way down through thousands of inner pages, and one in which each page leads to the next one twice, end soon.
func TestP13Deep(t *testing.T) {
	const count = 4000
	ladder, double := database(count), database(count)
	for n := 2; n < count; n++ {
		ladder[n-1] = inner(uint32(n+1), child(2, key(n)))
		double[n-1] = inner(uint32(n+1), child(uint32(n+1), key(-n)))
	}
	ladder[count-1], double[count-1] = leaf(short(key(count))), leaf(short(key(0)))
	for _, pages := range [][]api.Page{ladder, double} {
		tx := having(t, pages...)
		for _, c := range append(walks(2), goesOver(2, nil, nil)) {
			refuses(t, "deep", tx, c, api.ErrBad)
		}
		for _, k := range append(ints(0, 5, count), key(nil), key("x")) {
			for _, c := range ofKey(2, nil, k) {
				c.does(tx)
			}
		}
	}
}

// TestP13OtherOrders: by other orders than those that a tree was made by all calls end, with an answer that there is or with ErrBad; then nothing has changed. The tree is one still, but for how its keys stand.
func TestP13OtherOrders(t *testing.T) {
	r := rand.New(rand.NewSource(77))
	all := allOrders()
	for i := range 40 {
		s := anySet(r, all[i%len(all)], 1+r.Intn(150))
		l, root := anyTree(r, 700, s)
		tx := having(t, l.pages...)
		met := map[api.Errno]int{}
		for range 60 {
			order, k := all[r.Intn(len(all))], anyKey(r, 200)
			if r.Intn(2) == 0 && len(s.rows) > 0 {
				k = s.rows[r.Intn(len(s.rows))]
			}
			c := ofKey(root, order, k)[r.Intn(4)]
			before := seen(t, tx)
			answer, e := c.does(tx)
			met[e]++
			if e != api.OK && (answer || !slices.Contains([]api.Errno{api.ErrBad, api.ErrThere, api.ErrNone}, e) || !slices.Equal(seen(t, tx), before)) {
				t.Fatalf("%s by other orders: %v (an answer beside it: %v)", c.name, e, answer)
			}
			f, wrong := lookThrough(seen(t, tx), root, nil)
			if wrong != "" {
				t.Fatalf("%s by other orders: %s", c.name, wrong)
			}
			shared(t, tx, f.pages, f.chains, l.left)
		}
		if i > 20 && met[api.OK] == 0 {
			t.Errorf("no call by other orders was taken: %v", met)
		}
		want(t, "Drop", keys.Drop(tx, root), api.OK)
		shared(t, tx, l.left)
	}
}
