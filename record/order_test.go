package record_test

import (
	"cmp"
	"math"
	"math/rand"
	"slices"
	"strings"
	"testing"

	"bureau/api"
	"bureau/record"
	"bureau/value"
)

var (
	rises  = api.Order{}
	falls  = api.Order{Desc: true}
	noCase = api.Order{Coll: api.CollNoCase}
	rTrim  = api.Order{Coll: api.CollRTrim}
)

func by(os ...api.Order) []api.Order { return os }

// expectCmp asks it both ways round.
func expectCmp(t *testing.T, a, b []api.Value, order []api.Order, want int) {
	t.Helper()
	if n := record.Cmp(a, b, order); n != want {
		t.Errorf("Cmp(%v, %v, %v) = %d, not %d", a, b, order, n, want)
	}
	if n := record.Cmp(b, a, order); n != -want {
		t.Errorf("Cmp(%v, %v, %v) = %d, not %d", b, a, order, n, -want)
	}
}

func TestP43CmpExamples(t *testing.T) {
	expectCmp(t, row(text("a"), num(1)), row(text("A"), num(2)), by(noCase), -1)
	expectCmp(t, row(text("a")), row(text("A")), nil, 1)
	expectCmp(t, row(num(1)), row(num(1), null), nil, -1)
	expectCmp(t, row(num(1)), row(num(2)), by(falls), 1)
}

func TestP43CmpKinds(t *testing.T) {
	rising := row(null, num(math.MinInt64), num(-1), num(0), num(9), num(10), num(math.MaxInt64), text(""), text("10"), text("9"), text("\xff"), blob(""), blob("\x00"), blob("a"), blob("b"))
	for i, a := range rising {
		for j, b := range rising {
			expectCmp(t, row(a), row(b), nil, cmp.Compare(i, j))
			expectCmp(t, row(a), row(b), by(noCase), cmp.Compare(i, j))
			expectCmp(t, row(a), row(b), by(falls), cmp.Compare(j, i))
			expectCmp(t, row(num(4), a), row(num(4), b), by(falls), cmp.Compare(i, j))
			expectCmp(t, row(num(4), a), row(num(4), b), by(rises, falls), cmp.Compare(j, i))
		}
	}
}

func TestP43CmpCollations(t *testing.T) {
	a, upper, blanks := row(text("a"), text("a")), row(text("a"), text("A")), row(text("a"), text("a "))
	expectCmp(t, a, upper, by(rises, noCase), 0)
	expectCmp(t, a, upper, by(rises, rTrim), 1)
	expectCmp(t, a, upper, by(noCase, rises), 1)
	expectCmp(t, a, upper, by(noCase), 1)
	expectCmp(t, a, blanks, by(rises, rTrim), 0)
	expectCmp(t, a, blanks, by(rises, noCase), -1)
	expectCmp(t, a, blanks, by(rTrim), -1)
	expectCmp(t, row(text("a")), row(text("B")), by(api.Order{Coll: api.CollNoCase, Desc: true}), 1)
	expectCmp(t, row(text("a ")), row(text("a")), by(api.Order{Coll: api.CollRTrim, Desc: true}), 0)
	expectCmp(t, row(blob("a")), row(blob("A")), by(noCase), 1)
	expectCmp(t, row(blob("a")), row(blob("a ")), by(rTrim), -1)
	for _, none := range []api.Coll{-1, 3, 7, math.MinInt, math.MaxInt} {
		expectCmp(t, row(text("a")), row(text("A")), by(api.Order{Coll: none}), 1)
		expectCmp(t, row(text("a")), row(text("a ")), by(api.Order{Coll: none, Desc: true}), 1)
	}
}

func TestP43CmpFirstThatDiffers(t *testing.T) {
	expectCmp(t, row(num(1), num(9), num(9)), row(num(1), num(8), num(10)), nil, 1)
	expectCmp(t, row(num(1), num(9), num(9)), row(num(1), num(8), num(10)), by(rises, falls), -1)
	expectCmp(t, row(num(1), num(9), num(9)), row(num(1), num(9), num(10)), by(falls, falls), -1)
	expectCmp(t, row(num(1), num(9), num(9)), row(num(1), num(9), num(10)), by(falls, falls, falls), 1)
	expectCmp(t, row(num(0), num(9)), row(num(1), num(8)), by(falls), 1)
	expectCmp(t, row(null, num(9)), row(null, num(9)), by(falls, falls, noCase), 0)
}

func TestP43CmpOneEndsFirst(t *testing.T) {
	for _, order := range [][]api.Order{nil, by(), by(falls), by(rises, falls), by(falls, falls, falls), slices.Repeat(by(noCase), 40)} {
		expectCmp(t, nil, nil, order, 0)
		expectCmp(t, nil, row(), order, 0)
		expectCmp(t, nil, row(null), order, -1)
		expectCmp(t, row(), row(blob("z"), null), order, -1)
		expectCmp(t, row(num(1)), row(num(1), null), order, -1)
		expectCmp(t, row(num(1), text("")), row(num(1), text(""), num(-5), null), order, -1)
		expectCmp(t, rowOf(num(3), 40), rowOf(num(3), 41), order, -1)
	}
	expectCmp(t, row(num(2)), row(num(1), null), nil, 1)
	expectCmp(t, row(num(2)), row(num(1), null), by(falls), -1)
}

func TestP43CmpForbidden(t *testing.T) {
	for _, v := range forbidden() {
		for _, w := range append(forbidden(), null, num(-5), num(5), text(""), text("zz"), blob("")) {
			for _, order := range [][]api.Order{nil, by(falls), by(noCase, falls)} {
				expectCmp(t, row(v), row(w), order, 0)
				expectCmp(t, row(v, num(7)), row(w, num(7)), order, 0)
				expectCmp(t, row(v), row(w, v), order, -1)
			}
			expectCmp(t, row(v, num(3)), row(w, num(4)), nil, -1)
			expectCmp(t, row(v, num(3)), row(w, num(4)), by(rises, falls), 1)
			expectCmp(t, row(num(3), v), row(num(4), w), nil, -1)
		}
	}
}

func TestP43Same(t *testing.T) {
	all := append(forbidden(), null, num(0), num(1), text(""), text("a"), text("A"), text("a "), text("1"), blob(""), blob("a"), blob("1"))
	for i, a := range all {
		for j, b := range all {
			if same := record.Same(row(a), row(b)); same != (i == j) {
				t.Errorf("Same(%v, %v) = %t", a, b, same)
			}
			if same := record.Same(row(null, a, num(2)), row(null, b, num(2))); same != (i == j) {
				t.Errorf("Same in the midst (%v, %v) = %t", a, b, same)
			}
		}
		if record.Same(row(a), row(a, a)) || record.Same(row(a, a), row(a)) || record.Same(row(a), nil) || record.Same(nil, row(a)) {
			t.Errorf("%v: rows of other lengths", a)
		}
	}
	if !record.Same(nil, nil) || !record.Same(nil, row()) || !record.Same(row(), nil) || !record.Same(rowOf(null, 4000), rowOf(null, 4000)) {
		t.Error("the same rows")
	}
}

// anyValue is a value that may be, of few, so that rows are often the same.
func anyValue(r *rand.Rand) api.Value {
	switch r.Intn(4) {
	case 0:
		return null
	case 1:
		return num([]int64{0, 1, 2, -1, 255, 256, 65536, math.MinInt64, math.MaxInt64, r.Int63() >> r.Intn(63)}[r.Intn(10)])
	case 2:
		return text([]string{"", "a", "A", "a ", "ab", "\x00", "\x01\x00"}[r.Intn(7)])
	}
	return blob([]string{"", "a", "A", "a ", "ab", "\x00", "\x01\x00", long("\x0d", r.Intn(api.MaxValue+1))}[r.Intn(8)])
}

func anyRow(r *rand.Rand, most int) []api.Value {
	vs := make([]api.Value, r.Intn(most+1))
	for i := range vs {
		vs[i] = anyValue(r)
	}
	return vs
}

func anyOrder(r *rand.Rand) []api.Order {
	os := make([]api.Order, r.Intn(4))
	for i := range os {
		os[i] = api.Order{Coll: api.Coll(r.Intn(4)), Desc: r.Intn(2) == 0}
	}
	return os
}

func TestP44ThereAndBack(t *testing.T) {
	r := rand.New(rand.NewSource(44))
	for range 50000 {
		vs := anyRow(r, api.MaxCols)
		s, e := record.Encode(vs)
		if len(laid(vs)) > api.MaxRecord {
			expectRefused(t, vs, api.ErrLong)
			continue
		}
		back, d := record.Decode(s)
		if e != api.OK || d != api.OK || !record.Same(back, vs) || s != laid(vs) {
			t.Fatalf("%v: % x, %v, back %v, %v", vs, s, e, back, d)
		}
	}
}

// TestP44OneRecordEach: no two rows have one record, and none is the beginning of another one, which in sorted texts would come right behind it.
func TestP44OneRecordEach(t *testing.T) {
	r := rand.New(rand.NewSource(45))
	rows := map[string][]api.Value{}
	for range 50000 {
		vs := anyRow(r, 4)
		s, _ := record.Encode(vs)
		if other, there := rows[s]; there && !slices.Equal(vs, other) {
			t.Fatalf("%v and %v have one record", vs, other)
		}
		rows[s] = vs
	}
	sorted := []string{}
	for s := range rows {
		sorted = append(sorted, s)
	}
	slices.Sort(sorted)
	for i := range len(sorted) - 1 {
		if strings.HasPrefix(sorted[i+1], sorted[i]) {
			t.Fatalf("% x is the beginning of % x", sorted[i], sorted[i+1])
		}
	}
}

func TestP44CmpIsAnOrder(t *testing.T) {
	r := rand.New(rand.NewSource(46))
	for range 200000 {
		a, b, c, order := anyRow(r, 3), anyRow(r, 3), anyRow(r, 3), anyOrder(r)
		if r.Intn(2) == 0 {
			b = append(slices.Clone(a[:r.Intn(len(a)+1)]), b...)
		}
		ab, bc, ac := record.Cmp(a, b, order), record.Cmp(b, c, order), record.Cmp(a, c, order)
		if record.Cmp(b, a, order) != -ab || record.Cmp(a, a, order) != 0 {
			t.Fatalf("%v, %v by %v", a, b, order)
		}
		if ab == -1 && bc == -1 && ac != -1 || ab == 0 && bc == 0 && ac != 0 || ab == 0 && bc != ac {
			t.Fatalf("%v, %v, %v by %v: %d, %d, %d", a, b, c, order, ab, bc, ac)
		}
	}
}

func TestP44CmpByNoOrders(t *testing.T) {
	r := rand.New(rand.NewSource(47))
	same := 0
	for range 200000 {
		a, b := anyRow(r, 2), anyRow(r, 2)
		n := record.Cmp(a, b, nil)
		if (n == 0) != record.Same(a, b) || n != value.CmpRows(a, b) {
			t.Fatalf("Cmp(%v, %v) = %d", a, b, n)
		}
		if n == 0 {
			same++
		}
	}
	if same < 100 {
		t.Errorf("just %d the same", same)
	}
}
