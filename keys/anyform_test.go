package keys_test

import (
	"bytes"
	"math/rand"
	"slices"
	"strings"
	"testing"

	"bureau/api"
	"bureau/keys"
	"bureau/record"
)

// allOrders is orders rising, falling, by each collation, for fewer and for more columns than keys have.
func allOrders() [][]api.Order {
	many := make([]api.Order, 20)
	for i := range many {
		many[i] = api.Order{Coll: api.Coll(i % 4), Desc: i%3 == 1}
	}
	return [][]api.Order{
		nil, {{Desc: true}}, {{Coll: api.CollNoCase}}, {{Coll: api.CollRTrim}}, {{Coll: api.CollNoCase, Desc: true}, {Coll: api.CollRTrim}},
		{{}, {Desc: true}}, {{Coll: api.CollRTrim, Desc: true}, {}, {Coll: api.CollNoCase}}, many, {{Coll: 7}, {Coll: -3, Desc: true}},
	}
}

// anyText is a text of a few letters, so that many are the same by a collation.
func anyText(r *rand.Rand) string {
	var b []byte
	for range r.Intn(4) {
		b = append(b, "aAbB  "[r.Intn(6)])
	}
	return string(b)
}

// anyValue is a value; now and then a long one, whose first bytes are like those of others.
func anyValue(r *rand.Rand, numbers int) api.Value {
	switch n := r.Intn(40); {
	case n < 3:
		return api.Value{}
	case n < 22:
		return key(r.Intn(numbers) - numbers/2)[0]
	case n < 33:
		return key(anyText(r))[0]
	case n < 36:
		return key([]byte(anyText(r)))[0]
	case n < 39:
		return key(strings.Repeat("m", 30+r.Intn(40)) + anyText(r))[0]
	}
	return key(bytes.Repeat([]byte("m"), 250+r.Intn(147)))[0]
}

// anyKey is a key of a few values, or of many.
func anyKey(r *rand.Rand, numbers int) []api.Value {
	count := 1 + r.Intn(3)
	switch r.Intn(60) {
	case 0:
		count = 0
	case 1:
		count = 1 + r.Intn(api.MaxCols)
	case 2:
		return sized([]int{39, 40, 41, 127, 128, 280, 281, 600}[r.Intn(8)], r.Intn(numbers))
	case 3:
		if r.Intn(8) == 0 {
			return sized(edges[r.Intn(len(edges))], r.Intn(3))
		}
	}
	var k []api.Value
	for range count {
		k = append(k, anyValue(r, numbers))
	}
	if _, e := record.Encode(k); e != api.OK {
		return k[:1]
	}
	return k
}

// anySet is about so many keys.
func anySet(r *rand.Rand, order []api.Order, count int) set {
	s := set{order: order}
	for range count {
		s.add(anyKey(r, 3*count))
	}
	return s
}

// branch is a page, and the first and the last key below it.
type branch struct {
	n           int
	first, last []api.Value
}

// anyLeaves lays keys into leaves, some of which are nearly empty.
func (l *layer) anyLeaves(r *rand.Rand, rows [][]api.Value) []branch {
	var made []branch
	for len(rows) > 0 {
		most, count, room := 1+r.Intn(25), 0, 250
		for count < len(rows) && count < most && room >= 47 {
			room -= len(recordOf(rows[count])[:min(len(recordOf(rows[count])), 40)]) + 7
			count++
		}
		made = append(made, branch{l.leaf(rows[:count]...), rows[0], rows[count-1]})
		rows = rows[count:]
	}
	return made
}

// between is a key that may part two pages: not ahead of the one's last, and ahead of the other's first.
func between(r *rand.Rand, order []api.Order, left, right branch) []api.Value {
	for range 20 {
		k := anyKey(r, 60)
		switch r.Intn(3) {
		case 0:
			k = append(slices.Clone(left.last), api.Value{})
		case 1:
			k = append(slices.Clone(left.last[:min(len(left.last), 10)]), anyValue(r, 60))
		}
		_, e := record.Encode(k)
		if e == api.OK && record.Cmp(left.last, k, order) <= 0 && record.Cmp(k, right.first, order) < 0 {
			return k
		}
	}
	return left.last
}

// anyAbove lays inner pages above others, each with two children or more.
func (l *layer) anyAbove(r *rand.Rand, order []api.Order, below []branch) []branch {
	var made []branch
	for len(below) > 0 {
		size, room := 1, 250
		most := 2 + r.Intn(18)
		var parts [][]api.Value
		for size < len(below) && size < most && room >= 51 {
			parts = append(parts, between(r, order, below[size-1], below[size]))
			room -= min(len(recordOf(parts[size-1])), 40) + 11
			size++
		}
		if len(below)-size == 1 { // none may be left alone
			size--
			if size == 1 {
				size, parts = 3, append(parts, between(r, order, below[1], below[2]))
			}
		}
		var children []int
		for _, b := range below[:size] {
			children = append(children, b.n)
		}
		made = append(made, branch{l.inner(children, parts[:size-1]...), below[0].first, below[size-1].last})
		below = below[size:]
	}
	return made
}

// anyTree lays a whole tree, in any of the forms that the chapter has.
func anyTree(r *rand.Rand, count int, s set) (*layer, int) {
	l := newLayer(count)
	r.Shuffle(len(l.left), func(i, j int) { l.left[i], l.left[j] = l.left[j], l.left[i] })
	if len(s.rows) == 0 {
		return l, l.leaf()
	}
	level := l.anyLeaves(r, s.rows)
	for len(level) > 1 {
		level = l.anyAbove(r, s.order, level)
	}
	return l, level[0].n
}

// TestP132AnyForm: keys are put into trees of any form, and taken out of them, till there are none.
func TestP132AnyForm(t *testing.T) {
	r := rand.New(rand.NewSource(132))
	for i := range 60 {
		s := anySet(r, allOrders()[i%len(allOrders())], 1+r.Intn(160))
		l, root := anyTree(r, 700, s)
		tx := having(t, l.pages...)
		stands(t, l.pages, root, s.order, s.rows)
		if i%3 == 0 && len(s.rows) < 60 {
			tells(t, tx, root, s.order, s.rows...)
		}
		for step := range 90 {
			k := anyKey(r, 300)
			if len(s.rows) > 0 && r.Intn(3) > 0 {
				k = s.rows[r.Intn(len(s.rows))]
			}
			if _, is := s.place(k); is {
				deletes(t, tx, root, s.order, k)
				s.remove(k)
			} else {
				inserts(t, tx, root, s.order, k)
				s.add(k)
			}
			own, chains := stands(t, seen(t, tx), root, s.order, s.rows)
			if step%10 == 0 {
				shared(t, tx, own, chains, l.left)
			}
		}
		for len(s.rows) > 0 {
			k := s.rows[r.Intn(len(s.rows))]
			deletes(t, tx, root, s.order, k)
			s.remove(k)
			if len(s.rows)%5 == 0 {
				stands(t, seen(t, tx), root, s.order, s.rows)
			}
		}
		if l, e := keys.Pages(tx, root); e != api.OK || !slices.Equal(l, []int{root}) {
			t.Fatalf("no keys, Pages: %v %v", l, e)
		}
		shared(t, tx, []int{root}, l.left)
	}
}
