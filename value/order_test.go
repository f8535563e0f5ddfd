package value_test

import (
	"bytes"
	"cmp"
	"math"
	"math/rand"
	"slices"
	"strings"
	"testing"

	"bureau/api"
	"bureau/value"
)

const (
	binary = api.CollBinary
	noCase = api.CollNoCase
	rTrim  = api.CollRTrim
)

func sorts() []api.Coll {
	return []api.Coll{binary, noCase, rTrim, -1, 3, 7, math.MinInt, math.MaxInt}
}

func expectCmp(t *testing.T, a, b api.Value, c api.Coll, want int) {
	t.Helper()
	if n := value.Cmp(a, b, c); n != want {
		t.Errorf("Cmp(%v, %v, %d) = %d, not %d", a, b, c, n, want)
	}
	if n := value.Cmp(b, a, c); n != -want {
		t.Errorf("Cmp(%v, %v, %d) = %d, not %d", b, a, c, n, -want)
	}
}

func TestP23Binary(t *testing.T) {
	all := allowed()
	for i, a := range all {
		for j, b := range all {
			for _, c := range []api.Coll{binary, -1, 3, 7, math.MinInt, math.MaxInt} {
				if n := value.Cmp(a, b, c); n != cmp.Compare(i, j) {
					t.Errorf("Cmp(%v, %v, %d) = %d", a, b, c, n)
				}
			}
		}
	}
}

func TestP23Kinds(t *testing.T) {
	rising := [][]api.Value{{null}, {num(math.MinInt64), num(math.MaxInt64)}, {text(""), text(longest(255)), text("9")}, {blob(""), blob(longest(255))}}
	for i, lower := range rising {
		for _, higher := range rising[i+1:] {
			for _, a := range lower {
				for _, b := range higher {
					for _, c := range sorts() {
						expectCmp(t, a, b, c, -1)
					}
				}
			}
		}
	}
}

func TestP23Collations(t *testing.T) {
	for _, x := range []struct {
		a, b                  string
		binary, noCase, rTrim int
	}{
		{"a", "B", 1, -1, 1},
		{"a", "A", 1, 0, 1},
		{"a ", "a", 1, 1, 0},
		{"A ", "a", -1, 1, -1},
		{"a   ", "a ", 1, 1, 0},
		{"", "    ", -1, -1, 0},
		{"", "", 0, 0, 0},
		{" a", "a", -1, -1, -1},
		{"a b", "ab", -1, -1, -1},
		{"a\x00", "a", 1, 1, 1},
		{"a\x00", "a ", -1, -1, 1},
		{"a\t", "a", 1, 1, 1},
		{"a \x00", "a", 1, 1, 1},
		{"a\xc2\xa0", "a", 1, 1, 1},
		{"AZ", "az", -1, 0, -1},
		{"Z", "_", -1, 1, -1},
		{"Z", "[", -1, 1, -1},
		{"@", "A", -1, -1, -1},
		{"@", "`", -1, -1, -1},
		{"[", "{", -1, -1, -1},
		{"[", "a", -1, -1, -1},
		{"\xc3\x84", "\xc3\xa4", -1, -1, -1},
		{"\xc1", "\xe1", -1, -1, -1},
		{"\x7f", "\x80", -1, -1, -1},
		{"ABC", "abd", -1, -1, -1},
		{"abC", "ABc", 1, 0, 1},
		{"aBCD", "Abc", 1, 1, 1},
		{longest('A'), longest('a'), -1, 0, -1},
		{longest(' '), "", 1, 1, 0},
	} {
		expectCmp(t, text(x.a), text(x.b), binary, x.binary)
		expectCmp(t, text(x.a), text(x.b), noCase, x.noCase)
		expectCmp(t, text(x.a), text(x.b), rTrim, x.rTrim)
		for c, n := range map[api.Coll]int{binary: x.binary, noCase: x.noCase, rTrim: x.rTrim, 3: x.binary, -1: x.binary} {
			if value.Equal(x.a, x.b, c) != (n == 0) || value.Equal(x.b, x.a, c) != (n == 0) {
				t.Errorf("Equal(%.20q, %.20q, %d) is not %v", x.a, x.b, c, n == 0)
			}
		}
	}
}

// Every two bytes, against what the standard library makes of them.
func TestP23EachTwoBytes(t *testing.T) {
	for x := range 256 {
		for y := range 256 {
			a, b := []byte{byte(x)}, []byte{byte(y)}
			want := map[api.Coll]int{
				binary: bytes.Compare(a, b),
				noCase: bytes.Compare(asciiLower(a), asciiLower(b)),
				rTrim:  bytes.Compare(bytes.TrimRight(a, " "), bytes.TrimRight(b, " ")),
			}
			for c, n := range want {
				expectCmp(t, text(string(a)), text(string(b)), c, n)
				expectCmp(t, blob(string(a)), blob(string(b)), c, want[binary])
				if value.Equal(string(a), string(b), c) != (n == 0) {
					t.Errorf("Equal(%q, %q, %d)", a, b, c)
				}
			}
		}
	}
}

func asciiLower(s []byte) []byte {
	out := slices.Clone(s)
	for i, b := range out {
		if strings.IndexByte("ABCDEFGHIJKLMNOPQRSTUVWXYZ", b) >= 0 {
			out[i] = b + 32
		}
	}
	return out
}

func TestP23BlobsHaveNoCollation(t *testing.T) {
	for _, c := range sorts() {
		expectCmp(t, blob("a"), blob("A"), c, 1)
		expectCmp(t, blob("a "), blob("a"), c, 1)
		expectCmp(t, blob("B"), blob("a"), c, -1)
		expectCmp(t, blob("ab"), blob("b"), c, -1)
		expectCmp(t, blob("a"), blob("a"), c, 0)
		expectCmp(t, num(9), num(10), c, -1)
		expectCmp(t, num(math.MinInt64), num(math.MaxInt64), c, -1)
		expectCmp(t, null, null, c, 0)
	}
}

func TestP23WhatMayNotBe(t *testing.T) {
	for _, bad := range forbidden() {
		for _, c := range sorts() {
			for _, v := range append(allowed(), forbidden()...) {
				expectCmp(t, bad, v, c, 0)
			}
		}
	}
}

func TestP23Rows(t *testing.T) {
	one, two := num(1), num(2)
	type row = []api.Value
	for _, x := range []struct {
		a, b  row
		colls []api.Coll
		n     int
	}{
		{nil, nil, nil, 0},
		{nil, row{}, []api.Coll{noCase}, 0},
		{nil, row{null}, nil, -1},
		{row{one}, row{one, two}, nil, -1},
		{row{one, null}, row{one}, []api.Coll{noCase}, 1},
		{row{one, two}, row{one, two}, nil, 0},
		{row{two}, row{one, two, two}, nil, 1},
		{row{one, two, one}, row{one, one, two}, nil, 1},
		{row{text("A"), text("b")}, row{text("a"), text("B")}, nil, -1},
		{row{text("A"), text("b")}, row{text("a"), text("B")}, []api.Coll{noCase}, 1},
		{row{text("A"), text("b")}, row{text("a"), text("B")}, []api.Coll{noCase, noCase}, 0},
		{row{text("A"), text("b")}, row{text("a"), text("B")}, []api.Coll{binary, noCase}, -1},
		{row{text("A"), text("b ")}, row{text("a"), text("b")}, []api.Coll{noCase, rTrim}, 0},
		{row{text("A"), text("b ")}, row{text("a"), text("b")}, []api.Coll{noCase, noCase, rTrim}, 1},
		{row{text("a"), text("a")}, row{text("A"), text("a")}, []api.Coll{9, noCase}, 1},
		{row{text("A"), one}, row{text("a"), one, null}, []api.Coll{noCase}, -1},
		{row{text("a "), two}, row{text("a"), one}, []api.Coll{rTrim, rTrim, rTrim, rTrim}, 1},
	} {
		if n := value.CmpRows(x.a, x.b, x.colls...); n != x.n {
			t.Errorf("CmpRows(%v, %v, %v) = %d", x.a, x.b, x.colls, n)
		}
		if n := value.CmpRows(x.b, x.a, x.colls...); n != -x.n {
			t.Errorf("CmpRows(%v, %v, %v) = %d", x.b, x.a, x.colls, n)
		}
	}
}

func TestP23LongRows(t *testing.T) {
	a := slices.Repeat([]api.Value{text("A")}, 3000)
	b := slices.Repeat([]api.Value{text("a")}, 3000)
	colls := slices.Repeat([]api.Coll{noCase}, 3000)
	if n := value.CmpRows(a, b, colls...); n != 0 {
		t.Error("all under their collations:", n)
	}
	if n := value.CmpRows(a, b, colls[:2999]...); n != -1 {
		t.Error("the last one binary:", n)
	}
	if n := value.CmpRows(b, a[:2999], colls...); n != 1 {
		t.Error("one longer:", n)
	}
}

// A pair of which one may not be is passed over like one that is the same.
func TestP23RowsWithWhatMayNotBe(t *testing.T) {
	for _, bad := range forbidden() {
		if n := value.CmpRows([]api.Value{bad, num(1)}, []api.Value{num(7), num(2)}); n != -1 {
			t.Errorf("%v: %d", bad, n)
		}
		if n := value.CmpRows([]api.Value{num(7), num(2)}, []api.Value{bad, num(1)}); n != 1 {
			t.Errorf("%v: %d", bad, n)
		}
		if n := value.CmpRows([]api.Value{bad}, []api.Value{num(7)}, noCase); n != 0 {
			t.Errorf("%v: %d", bad, n)
		}
	}
}

func TestP23RowsAreNotChanged(t *testing.T) {
	a, b, colls := []api.Value{text("A "), text("b")}, []api.Value{text("a"), text("B ")}, []api.Coll{rTrim, noCase}
	value.CmpRows(a, b, colls...)
	value.Check(a...)
	value.PrintRow(a...)
	if !slices.Equal(a, []api.Value{text("A "), text("b")}) || !slices.Equal(b, []api.Value{text("a"), text("B ")}) || !slices.Equal(colls, []api.Coll{rTrim, noCase}) {
		t.Error(a, b, colls)
	}
}

// Equal takes any texts, those longer than a value's too.
func TestP23EqualOfLongTexts(t *testing.T) {
	long := strings.Repeat("aB", 5000)
	for _, x := range []struct {
		a, b string
		c    api.Coll
		same bool
	}{
		{long, long, binary, true}, {long, strings.ToLower(long), binary, false}, {long, strings.ToLower(long), noCase, true},
		{long, long + " ", rTrim, true}, {long, long + " ", noCase, false}, {long, long + "x", rTrim, false}, {long + "x", long, noCase, false},
	} {
		if value.Equal(x.a, x.b, x.c) != x.same || value.Equal(x.b, x.a, x.c) != x.same {
			t.Errorf("%.10q of %d, %.10q of %d, %d: not %v", x.a, len(x.a), x.b, len(x.b), x.c, x.same)
		}
	}
}

func TestP25Total(t *testing.T) {
	all := allowed()
	for _, coll := range sorts() {
		for _, a := range all {
			for _, b := range all {
				ab := value.Cmp(a, b, coll)
				if ab < -1 || ab > 1 || value.Cmp(b, a, coll) != -ab {
					t.Fatalf("%v and %v under %d", a, b, coll)
				}
				for _, c := range all {
					if ab <= 0 && value.Cmp(b, c, coll) <= 0 && value.Cmp(a, c, coll) > 0 {
						t.Fatalf("%v, %v, %v under %d", a, b, c, coll)
					}
				}
			}
		}
	}
}

func TestP25SameIsOne(t *testing.T) {
	all := allowed()
	for _, a := range all {
		for _, b := range all {
			if same := value.Cmp(a, b, binary) == 0; same != (a == b) {
				t.Errorf("%v and %v: %v", a, b, same)
			}
			if a.Kind == api.KindText && b.Kind == api.KindText {
				for _, c := range sorts() {
					if value.Equal(a.Text, b.Text, c) != (value.Cmp(a, b, c) == 0) {
						t.Errorf("Equal and Cmp of %v and %v under %d", a, b, c)
					}
				}
			}
		}
	}
}

// The order of many values, told by the standard library.
func TestP25ManyValues(t *testing.T) {
	r := rand.New(rand.NewSource(3))
	for range 200000 {
		a, b := anyValue(r, 4), anyValue(r, 4)
		if a.Kind != b.Kind {
			continue
		}
		for _, c := range []api.Coll{binary, noCase, rTrim} {
			want := strings.Compare(counted(a, c), counted(b, c))
			if a.Kind == api.KindInt {
				want = cmp.Compare(a.Int, b.Int)
			}
			expectCmp(t, a, b, c, want)
		}
	}
}

// counted is a text as its collation takes it; of a blob all of it.
func counted(v api.Value, c api.Coll) string {
	switch {
	case v.Kind == api.KindText && c == noCase:
		return string(asciiLower([]byte(v.Text)))
	case v.Kind == api.KindText && c == rTrim:
		return string(bytes.TrimRight([]byte(v.Text), " "))
	}
	return v.Text
}
