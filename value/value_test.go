package value_test

import (
	"math"
	"strings"
	"testing"

	"bureau/api"
	"bureau/value"
)

var null = api.Value{}

func text(s string) api.Value { return api.Value{Kind: api.KindText, Text: s} }
func blob(s string) api.Value { return api.Value{Kind: api.KindBlob, Text: s} }
func num(n int64) api.Value   { return api.Value{Kind: api.KindInt, Int: n} }

func longest(b byte) string { return strings.Repeat(string([]byte{b}), api.MaxValue) }

// allowed are values that may be, the edges among them, rising under CollBinary.
func allowed() []api.Value {
	return []api.Value{
		null,
		num(math.MinInt64), num(math.MinInt64 + 1), num(-10), num(-9), num(-1), num(0), num(1), num(9), num(10), num(math.MaxInt64 - 1), num(math.MaxInt64),
		text(""), text("\x00"), text("\x00\x00"), text("\x1f"), text(" "), text("  "), text(" a"), text("'"), text("''"), text("9"), text("@"), text("A"), text("AB"), text("Ab"), text("Z"), text("["), text("_"), text("`"),
		text("a"), text("a\x00"), text("a\t"), text("a\x1f"), text("a "), text("a  "), text("a !"), text("aB"), text(longest('a')), text("ab"), text("z"), text("{"), text("\x80"), text("\xc3\x84"), text("\xc3\xa4"), text("\xff"), text(longest(255)),
		blob(""), blob("\x00"), blob(" "), blob("A"), blob("A "), blob("a"), blob("a "), blob(longest('a')), blob("\xff"), blob(longest(255)),
	}
}

// forbidden are values that may not be.
func forbidden() []api.Value {
	return []api.Value{
		{Int: 1}, {Int: -1}, {Int: math.MinInt64}, {Text: "a"}, {Text: "\x00"}, {Int: 1, Text: "a"},
		{Kind: api.KindInt, Text: "1"}, {Kind: api.KindInt, Int: 1, Text: " "},
		{Kind: api.KindText, Int: 1}, {Kind: api.KindText, Int: -1, Text: "a"}, {Kind: api.KindText, Text: longest('a') + "a"},
		{Kind: api.KindBlob, Int: 1}, {Kind: api.KindBlob, Int: -1, Text: "a"}, {Kind: api.KindBlob, Text: longest(0) + "\x00"},
		{Kind: -1}, {Kind: 4}, {Kind: 9, Text: "a"}, {Kind: math.MinInt, Int: 1}, {Kind: math.MaxInt},
		{Kind: api.KindText, Text: strings.Repeat("a", 5000)},
	}
}

func TestP21May(t *testing.T) {
	for _, v := range allowed() {
		if !value.May(v) {
			t.Errorf("%v may be", v)
		}
	}
	for _, v := range forbidden() {
		if value.May(v) {
			t.Errorf("%v may not be", v)
		}
	}
}

func TestP21Check(t *testing.T) {
	if e := value.Check(); e != api.OK {
		t.Error("no values", e)
	}
	if e := value.Check([]api.Value{}...); e != api.OK {
		t.Error("an empty row", e)
	}
	for _, v := range allowed() {
		if e := value.Check(v); e != api.OK {
			t.Errorf("%v: %v", v, e)
		}
	}
	for n, want := range map[int]api.Errno{1: api.OK, 15: api.OK, 16: api.OK, 17: api.ErrLong, 5000: api.ErrLong} {
		if e := value.Check(make([]api.Value, n)...); e != want {
			t.Error(n, "values:", e)
		}
	}
}

func TestP21CheckLooksAtEveryValue(t *testing.T) {
	for _, v := range forbidden() {
		for _, n := range []int{1, 2, api.MaxCols, api.MaxCols + 1, 100} {
			for _, at := range []int{0, n / 2, n - 1} {
				row := make([]api.Value, n)
				row[at] = v
				if e := value.Check(row...); e != api.ErrArg {
					t.Errorf("%v as %d of %d: %v", v, at, n, e)
				}
			}
		}
	}
}

func TestP22Int(t *testing.T) {
	for _, n := range []int64{0, 1, -1, 42, math.MaxInt64, math.MinInt64} {
		if v := value.Int(n); v != num(n) {
			t.Error(n, v)
		}
	}
}

func TestP22TextAndBlob(t *testing.T) {
	for _, s := range []string{"", "a", "it's", "\x00", "\xff\xfe", "a ", longest('a'), longest(0)} {
		if v, e := value.Text(s); v != text(s) || e != api.OK {
			t.Errorf("text %.20q: %v %v", s, v, e)
		}
		if v, e := value.Blob(s); v != blob(s) || e != api.OK {
			t.Errorf("blob %.20q: %v %v", s, v, e)
		}
	}
}

func TestP22TooLong(t *testing.T) {
	for _, n := range []int{api.MaxValue + 1, api.MaxLiteral, api.MaxLiteral + 1, 1 << 20} {
		if v, e := value.Text(strings.Repeat("a", n)); v != null || e != api.ErrLong {
			t.Error("text of", n, v, e)
		}
		if v, e := value.Blob(strings.Repeat("\x00", n)); v != null || e != api.ErrLong {
			t.Error("blob of", n, v, e)
		}
	}
}
