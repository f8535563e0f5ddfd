package calc_test

import (
	"math"
	"math/big"
	"math/rand"
	"regexp"
	"strconv"
	"strings"
	"testing"

	"bureau/api"
	"bureau/calc"
)

const (
	least = math.MinInt64
	most  = math.MaxInt64
)

var null = api.Value{}

func text(s string) api.Value { return api.Value{Kind: api.KindText, Text: s} }
func blob(s string) api.Value { return api.Value{Kind: api.KindBlob, Text: s} }
func num(n int64) api.Value   { return api.Value{Kind: api.KindInt, Int: n} }

// long is s, n times.
func long(s string, n int) string { return strings.Repeat(s, n) }

// forbidden are values that may not be.
func forbidden() []api.Value {
	return []api.Value{
		{Int: 1}, {Int: least}, {Text: "1"}, {Text: "\x00"}, {Int: 1, Text: "1"},
		{Kind: api.KindInt, Text: "1"}, {Kind: api.KindInt, Int: 1, Text: " "},
		{Kind: api.KindText, Int: 1}, {Kind: api.KindText, Int: -1, Text: "1"}, {Kind: api.KindText, Text: long("1", api.MaxValue+1)}, {Kind: api.KindText, Text: long(" ", 5000) + "1"},
		{Kind: api.KindBlob, Int: 1}, {Kind: api.KindBlob, Int: -1, Text: "1"}, {Kind: api.KindBlob, Text: long("0", api.MaxValue) + "1"},
		{Kind: -1}, {Kind: 4}, {Kind: 4, Text: "1"}, {Kind: math.MinInt, Int: 1}, {Kind: math.MaxInt, Int: 1},
	}
}

// numbers are integers about the edges.
func numbers() []int64 {
	return []int64{
		least, least + 1, least + 2, least / 2, least/2 - 1, least/2 + 1, -1 << 32, -3037000500, -3037000499, -1<<31 - 1, -1 << 31, -10, -7, -3, -2, -1,
		0, 1, 2, 3, 7, 10, 1 << 31, 1<<31 + 1, 3037000499, 3037000500, 1 << 32, 1<<32 + 1, most/2 - 1, most / 2, most/2 + 1, most/2 + 2, most - 2, most - 1, most,
	}
}

// sampleTexts are bytes of texts and blobs, with what they are as numbers.
func sampleTexts() []struct {
	s string
	n api.Value
} {
	zero := num(0)
	return []struct {
		s string
		n api.Value
	}{
		{"", zero}, {"x", zero}, {" ", zero}, {"+", zero}, {"-", zero}, {"-x", zero}, {"x7", zero}, {"--7", zero}, {"+-7", zero}, {"-+7", zero}, {"++7", zero}, {"- 7", zero}, {"+ 7", zero}, {"_7", zero}, {".7", zero}, {"e7", zero},
		{"\x007", zero}, {"\x0b7", zero}, {"\x0c7", zero}, {"\xc2\xa07", zero}, {"\xa07", zero}, {"\x857", zero}, {"\xff7", zero}, {"\x087", zero}, {"\x0e7", zero}, {"\x1f7", zero}, {"!7", zero}, {"\xef\xbc\x97", zero}, {"\xd9\xa7", zero},
		{"7", num(7)}, {"+7", num(7)}, {"-7", num(-7)}, {"-0", zero}, {"+0", zero}, {"0", zero}, {"00", zero}, {"007", num(7)}, {"-007", num(-7)}, {"0x7", zero}, {"0b1", zero}, {"0o7", zero}, {"1_000", num(1)}, {"1e3", num(1)}, {"1.9", num(1)}, {"1,9", num(1)}, {"7-", num(7)}, {"7+1", num(7)}, {"7 8", num(7)}, {"7\x00", num(7)}, {"7/", num(7)}, {"7:", num(7)}, {"0123456789", num(123456789)}, {"7\xff", num(7)},
		{" 7", num(7)}, {"\t7", num(7)}, {"\n7", num(7)}, {"\r7", num(7)}, {" \t\n\r \r\n\t-7", num(-7)}, {" +7x", num(7)}, {"7 ", num(7)}, {" 7 ", num(7)}, {" - 7", zero}, {" \x0b7", zero}, {" 12x", num(12)}, {"12\xc2\xa0", num(12)},
		{"9223372036854775806", num(most - 1)}, {"9223372036854775807", num(most)}, {"9223372036854775808", null}, {"9223372036854775807x", num(most)}, {"9223372036854775808x", null}, {"92233720368547758070", null}, {"+9223372036854775807", num(most)}, {"+9223372036854775808", null},
		{"-9223372036854775807", num(least + 1)}, {"-9223372036854775808", num(least)}, {"-9223372036854775809", null}, {"  -9223372036854775808 ", num(least)}, {" -9223372036854775809", null}, {"18446744073709551615", null}, {"18446744073709551616", null}, {"18446744073709551617", null}, {"36893488147419103233", null}, {"340282366920938463463374607431768211457", null}, {"-18446744073709551617", null},
		{long("0", 400), zero}, {long("0", 399) + "7", num(7)}, {"-" + long("0", 398) + "7", num(-7)}, {long("0", 381) + "9223372036854775807", num(most)}, {long("0", 381) + "9223372036854775808", null}, {"-" + long("0", 380) + "9223372036854775808", num(least)}, {long("9", 400), null}, {"-" + long("9", 399), null}, {"1" + long("0", 399), null},
		{long(" ", 400), zero}, {long(" ", 399) + "7", num(7)}, {long("\n", 398) + "-7", num(-7)}, {"7" + long(" ", 399), num(7)}, {"7" + long("x", 399), num(7)}, {long("x", 399) + "7", zero}, {long(" ", 399) + "-", zero}, {long("+", 400), zero},
	}
}

// values are values that may be, of all kinds.
func values() []api.Value {
	list := []api.Value{null}
	for _, n := range numbers() {
		list = append(list, num(n))
	}
	for _, c := range sampleTexts() {
		list = append(list, text(c.s), blob(c.s))
	}
	for _, s := range []string{"a", "A", "a ", "A ", "aB", "Ab ", "\x80", "\xff", "1 ", "1\t"} {
		list = append(list, text(s), blob(s))
	}
	return list
}

// colls are collations, and numbers that are none.
func colls() []api.Coll {
	return []api.Coll{api.CollBinary, api.CollNoCase, api.CollRTrim, 3, -1, math.MaxInt, math.MinInt}
}

func TestP31Num(t *testing.T) {
	if n := calc.Num(null); n != null {
		t.Error(n)
	}
	for _, n := range numbers() {
		if v := calc.Num(num(n)); v != num(n) {
			t.Error(n, v)
		}
	}
	for _, c := range sampleTexts() {
		for _, v := range []api.Value{text(c.s), blob(c.s)} {
			if n := calc.Num(v); n != c.n {
				t.Errorf("%#v is %v as a number", v, n)
			}
		}
	}
}

// byPattern is a text as a number, by a pattern and numbers without bounds.
func byPattern(pattern *regexp.Regexp, s string) api.Value {
	hit := pattern.FindStringSubmatch(s)
	if hit == nil {
		return num(0)
	}
	n, _ := new(big.Int).SetString(strings.TrimPrefix(hit[1], "+"), 10)
	return inside(n)
}

// inside is a number as a value: NULL, if it is no int64.
func inside(n *big.Int) api.Value {
	if !n.IsInt64() {
		return null
	}
	return num(n.Int64())
}

func TestP31NumAgainstPattern(t *testing.T) {
	pattern := regexp.MustCompile(`^[ \t\n\r]*([+-]?[0-9]+)`)
	parts := []string{" ", "\t", "\n", "\r", "+", "-", "0", "1", "7", "9", "92233720368547758", "07", "08", "x", "\x00", "\xff", "'", "."}
	r := rand.New(rand.NewSource(3))
	for range 20000 {
		s := ""
		for range r.Intn(7) {
			s += parts[r.Intn(len(parts))]
		}
		if n := calc.Num(text(s)); n != byPattern(pattern, s) {
			t.Fatalf("%#v is %v as a number", s, n)
		}
	}
}

func TestP31Show(t *testing.T) {
	if v := calc.Show(null); v != null {
		t.Error(v)
	}
	for _, n := range numbers() {
		if v := calc.Show(num(n)); v != text(strconv.FormatInt(n, 10)) {
			t.Error(n, v)
		}
	}
	for _, c := range []struct {
		n int64
		s string
	}{{0, "0"}, {-1, "-1"}, {100, "100"}, {least, "-9223372036854775808"}, {most, "9223372036854775807"}} {
		if v := calc.Show(num(c.n)); v != text(c.s) {
			t.Error(c, v)
		}
	}
	for _, s := range []string{"", " 7 ", "\x00", "\xff'", long("a", api.MaxValue)} {
		if v, w := calc.Show(text(s)), calc.Show(blob(s)); v != text(s) || w != text(s) {
			t.Errorf("%#v: %v %v", s, v, w)
		}
	}
}

func TestP31Truth(t *testing.T) {
	for _, v := range values() {
		n := calc.Num(v)
		is, known := calc.Truth(v)
		if known != (n != null) || is != (n != null && n != num(0)) {
			t.Errorf("%#v: %v %v", v, is, known)
		}
	}
	for _, c := range []struct {
		v         api.Value
		is, known bool
	}{
		{null, false, false}, {num(0), false, true}, {num(1), true, true}, {num(-1), true, true}, {num(least), true, true},
		{text(""), false, true}, {text("x"), false, true}, {text("0x1"), false, true}, {text(" -2 "), true, true}, {text("9223372036854775808"), false, false},
		{blob(""), false, true}, {blob("1"), true, true}, {blob("\x01"), false, true}, {blob("-9223372036854775809"), false, false},
	} {
		if is, known := calc.Truth(c.v); is != c.is || known != c.known {
			t.Errorf("%v: %v %v", c, is, known)
		}
	}
}

func TestP31OfWhatMayNotBe(t *testing.T) {
	for _, v := range forbidden() {
		if n := calc.Num(v); n != null {
			t.Errorf("%#v is %v as a number", v, n)
		}
		if s := calc.Show(v); s != null {
			t.Errorf("%#v is %v as a text", v, s)
		}
		if is, known := calc.Truth(v); is || known {
			t.Errorf("%#v: %v %v", v, is, known)
		}
	}
}
