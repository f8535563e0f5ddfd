package calc_test

import (
	"math"
	"math/rand"
	"regexp"
	"strings"
	"testing"

	"bureau/api"
	"bureau/calc"
	"bureau/value"
)

// affs are the affinities, and numbers that are none.
func affs() []api.Aff {
	return []api.Aff{api.AffNone, api.AffInt, api.AffText, 3, -1, math.MaxInt, math.MinInt}
}

// noTypes are names that are no type's.
func noTypes() []string {
	return []string{
		"real", "INTEGE", "INTEGERS", "INTEGER ", " INTEGER", "INT ", " INT", "INTE", "IN", "I", "INTS", "BIGINT", "TEX", "TEXTS", "TEXT ", "TEXT\x00", "BLO", "BLOBS", " BLOB", " ", "\x00", "NULL", "NUMERIC", "VARCHAR", "none", "'INT'", "INTEGER\n",
		"\xc4\xb0NT", "\xc4\xb1nt", "\xef\xbc\xa9\xef\xbc\xae\xef\xbc\xb4", "\xff", long("INT", 3000), long("x", 100000),
	}
}

// inAllCases are all ways to write a name in small and great letters.
func inAllCases(name string) []string {
	list := []string{""}
	for _, r := range name {
		var next []string
		for _, s := range list {
			next = append(next, s+strings.ToLower(string(r)), s+strings.ToUpper(string(r)))
		}
		list = next
	}
	return list
}

func TestP35AffOf(t *testing.T) {
	for name, want := range map[string]api.Aff{"INTEGER": api.AffInt, "INT": api.AffInt, "TEXT": api.AffText, "BLOB": api.AffNone, "": api.AffNone} {
		for _, s := range inAllCases(name) {
			if f, ok := calc.AffOf(s); f != want || !ok {
				t.Errorf("%#v: %v %v", s, f, ok)
			}
		}
	}
	for _, s := range noTypes() {
		if f, ok := calc.AffOf(s); f != api.AffNone || ok {
			t.Errorf("%#v: %v %v", s, f, ok)
		}
	}
}

func TestP35ApplyInt(t *testing.T) {
	for _, c := range []struct {
		s string
		n int64
	}{
		{"7", 7}, {" 7 ", 7}, {"+7", 7}, {"-7", -7}, {"-0", 0}, {"+0", 0}, {"0", 0}, {"007", 7}, {"\t\n\r 7\r\n\t ", 7}, {"7\n", 7}, {"7\r", 7}, {"7\t", 7}, {"\t-7", -7},
		{"9223372036854775807", most}, {"-9223372036854775808", least}, {" +9223372036854775807 ", most}, {long(" ", 399) + "7", 7}, {"7" + long("\t", 399), 7}, {long("0", 399) + "7", 7}, {long("0", 400), 0}, {long("0", 381) + "9223372036854775807", most},
	} {
		if v := calc.Apply(api.AffInt, text(c.s)); v != num(c.n) {
			t.Errorf("%#v: %#v", c.s, v)
		}
	}
	for _, s := range []string{
		"", " ", "\t\n", "+", "-", " - ", "x", "7x", "x7", "7 x", "7 8", "- 7", "+ 7", "--7", "+-7", "7-", "7.", "7.0", "7e1", "0x7", "1_000", "1_0", "_1", "0b1", "\x007", "7\x00", "\x0b7", "7\x0c", "7\xc2\xa0", "\xc2\xa07", "7\x85", "\xef\xbc\x97", "\xd9\xa7",
		"9223372036854775808", "-9223372036854775809", " 9223372036854775808 ", "18446744073709551617", long("9", 400), long(" ", 400), long("0", 381) + "9223372036854775808", "inf", "NaN",
	} {
		if v := calc.Apply(api.AffInt, text(s)); v != text(s) {
			t.Errorf("%#v: %#v", s, v)
		}
	}
	for _, v := range []api.Value{null, num(7), num(least), num(most), blob("7"), blob(" 7 "), blob("")} {
		if w := calc.Apply(api.AffInt, v); w != v {
			t.Errorf("%#v: %#v", v, w)
		}
	}
}

func TestP35ApplyIntAgainstPattern(t *testing.T) {
	pattern := regexp.MustCompile(`^[ \t\n\r]*([+-]?[0-9]+)[ \t\n\r]*$`)
	parts := []string{" ", "\t", "\n", "\r", "+", "-", "0", "7", "922337203685477580", "x", "\x00", "_"}
	r := rand.New(rand.NewSource(35))
	for range 20000 {
		s := ""
		for range r.Intn(6) {
			s += parts[r.Intn(len(parts))]
		}
		want := text(s)
		if pattern.MatchString(s) {
			if n := byPattern(pattern, s); n != null {
				want = n
			}
		}
		if v := calc.Apply(api.AffInt, text(s)); v != want {
			t.Fatalf("%#v: %#v", s, v)
		}
	}
}

func TestP35ApplyText(t *testing.T) {
	for _, c := range []struct {
		n int64
		s string
	}{{7, "7"}, {0, "0"}, {-7, "-7"}, {least, "-9223372036854775808"}, {most, "9223372036854775807"}} {
		if v := calc.Apply(api.AffText, num(c.n)); v != text(c.s) {
			t.Error(c, v)
		}
	}
	for _, v := range []api.Value{null, text(""), text(" 7 "), text("a"), text(long("a", api.MaxValue)), blob(""), blob("7"), blob("a")} {
		if w := calc.Apply(api.AffText, v); w != v {
			t.Errorf("%#v: %#v", v, w)
		}
	}
}

func TestP35ApplyNone(t *testing.T) {
	for _, f := range affs() {
		if f == api.AffInt || f == api.AffText {
			continue
		}
		for _, v := range values() {
			if w := calc.Apply(f, v); w != v {
				t.Errorf("%d %#v: %#v", f, v, w)
			}
		}
	}
}

func TestP35Pair(t *testing.T) {
	const none, whole, txt, odd = api.AffNone, api.AffInt, api.AffText, api.Aff(3)
	seven, str := num(7), text("7")
	for _, c := range []struct {
		a, b api.Value
		x, y api.Aff
		v, w api.Value
	}{
		{seven, str, whole, txt, seven, seven}, {seven, str, whole, none, seven, seven}, {seven, str, whole, odd, seven, seven}, {seven, str, whole, whole, seven, str},
		{str, seven, txt, whole, seven, seven}, {str, seven, none, whole, seven, seven}, {str, seven, odd, whole, seven, seven}, {str, seven, whole, whole, str, seven},
		{str, str, whole, txt, str, seven}, {str, str, txt, whole, seven, str}, {str, str, whole, none, str, seven}, {str, str, none, whole, seven, str}, {str, str, whole, whole, str, str},
		{seven, seven, whole, txt, seven, seven}, {seven, seven, txt, whole, seven, seven},
		{seven, str, none, txt, str, str}, {seven, seven, none, txt, str, seven}, {seven, seven, txt, none, seven, str}, {str, seven, txt, none, str, str}, {seven, str, txt, none, seven, str},
		{seven, str, txt, txt, seven, str}, {seven, str, none, none, seven, str}, {seven, seven, txt, odd, seven, seven}, {seven, seven, odd, txt, seven, seven}, {seven, str, odd, odd, seven, str}, {seven, str, odd, none, seven, str}, {seven, seven, -1, txt, seven, seven}, {str, str, -1, whole, seven, str},
		{null, str, whole, none, null, seven}, {null, seven, txt, none, null, str}, {blob("7"), text("7x"), none, whole, blob("7"), text("7x")}, {num(7), blob("7"), whole, txt, num(7), blob("7")}, {text(" 7 "), text(" 8 "), none, whole, num(7), text(" 8 ")},
	} {
		if v, w := calc.Pair(c.a, c.b, c.x, c.y); v != c.v || w != c.w {
			t.Errorf("%#v: %#v %#v", c, v, w)
		}
	}
}

func TestP35PairIsApply(t *testing.T) {
	some := []api.Value{null, num(7), num(-8), text("7"), text(" -8 "), text("x"), blob("7"), blob("")}
	for _, x := range affs() {
		for _, y := range affs() {
			for _, a := range some {
				for _, b := range some {
					v, w := a, b
					switch {
					case x == api.AffInt && y != api.AffInt:
						w = calc.Apply(api.AffInt, b)
					case y == api.AffInt && x != api.AffInt:
						v = calc.Apply(api.AffInt, a)
					case x == api.AffText && y == api.AffNone:
						w = calc.Apply(api.AffText, b)
					case y == api.AffText && x == api.AffNone:
						v = calc.Apply(api.AffText, a)
					}
					if l, r := calc.Pair(a, b, x, y); l != v || r != w {
						t.Errorf("%#v %d, %#v %d: %#v %#v", a, x, b, y, l, r)
					}
				}
			}
		}
	}
}

func TestP35OfWhatMayNotBe(t *testing.T) {
	for _, v := range forbidden() {
		for _, f := range affs() {
			if w := calc.Apply(f, v); w != v {
				t.Errorf("%d %#v: %#v", f, v, w)
			}
		}
		for _, c := range []struct {
			x, y api.Aff
			with api.Value
		}{{api.AffInt, api.AffNone, num(7)}, {api.AffNone, api.AffInt, text("7")}, {api.AffText, api.AffNone, num(7)}, {api.AffNone, api.AffText, num(7)}, {api.AffInt, api.AffText, text("7")}} {
			_, other := calc.Pair(null, c.with, c.x, c.y)
			if l, r := calc.Pair(v, c.with, c.x, c.y); l != v || r != other {
				t.Errorf("%#v, %v: %#v %#v", v, c, l, r)
			}
			if l, r := calc.Pair(c.with, v, c.y, c.x); l != other || r != v {
				t.Errorf("%v, %#v: %#v %#v", c, v, l, r)
			}
		}
	}
}

func TestP36Cast(t *testing.T) {
	for _, c := range []struct {
		v    api.Value
		name string
		w    api.Value
	}{
		{text("12x"), "integer", num(12)}, {text("12x"), "Int", num(12)}, {text("x"), "INT", num(0)}, {text(" -7 "), "INTEGER", num(-7)}, {blob("12"), "INTEGER", num(12)}, {text("9223372036854775808"), "INTEGER", null}, {num(least), "INTEGER", num(least)}, {text(""), "int", num(0)},
		{blob("A"), "text", text("A")}, {num(-5), "TEXT", text("-5")}, {text(" a "), "TEXT", text(" a ")}, {blob(long("\x00", api.MaxValue)), "Text", text(long("\x00", api.MaxValue))}, {num(least), "TEXT", text("-9223372036854775808")}, {blob(""), "TEXT", text("")},
		{num(5), "blob", blob("5")}, {num(-5), "BLOB", blob("-5")}, {text("a"), "Blob", blob("a")}, {blob("a"), "BLOB", blob("a")}, {text(long("a", api.MaxValue)), "BLOB", blob(long("a", api.MaxValue))}, {text(""), "BLOB", blob("")},
		{num(5), "", num(5)}, {text(" 7"), "", text(" 7")}, {blob("7"), "", blob("7")},
		{null, "INTEGER", null}, {null, "int", null}, {null, "TEXT", null}, {null, "BLOB", null}, {null, "", null},
	} {
		if w, e := calc.Cast(c.v, c.name); w != c.w || e != api.OK {
			t.Errorf("%#v: %#v %v", c, w, e)
		}
	}
}

func TestP36CastOfAllKinds(t *testing.T) {
	for _, v := range values() {
		shown := calc.Show(v)
		bare := shown
		if bare != null {
			bare.Kind = api.KindBlob
		}
		for name, want := range map[string]api.Value{"INT": calc.Num(v), "text": shown, "blob": bare, "": v} {
			if w, e := calc.Cast(v, name); w != want || e != api.OK || !value.May(w) {
				t.Errorf("%#v to %#v: %#v %v", v, name, w, e)
			}
		}
	}
}

func TestP36Errors(t *testing.T) {
	for _, name := range noTypes() {
		for _, v := range append(forbidden(), null, num(5), text("5")) {
			if w, e := calc.Cast(v, name); w != null || e != api.ErrType {
				t.Errorf("%#v to %#v: %v %v", v, name, w, e)
			}
		}
	}
	for _, name := range []string{"INTEGER", "int", "TEXT", "blob", ""} {
		for _, v := range forbidden() {
			if w, e := calc.Cast(v, name); w != null || e != api.ErrArg {
				t.Errorf("%#v to %#v: %v %v", v, name, w, e)
			}
		}
	}
}

func TestP38Laws(t *testing.T) {
	for _, v := range values() {
		for _, f := range affs() {
			once := calc.Apply(f, v)
			if twice := calc.Apply(f, once); twice != once {
				t.Errorf("%d %#v: %#v, then %#v", f, v, once, twice)
			}
		}
		if n := calc.Apply(api.AffInt, v); n.Kind == api.KindInt && n != calc.Num(v) {
			t.Errorf("%#v: %v", v, n)
		}
	}
	for _, n := range numbers() {
		shown, e := calc.Cast(num(n), "TEXT")
		back, e2 := calc.Cast(shown, "INTEGER")
		if back != num(n) || e != api.OK || e2 != api.OK {
			t.Errorf("%d: %#v %#v %v %v", n, shown, back, e, e2)
		}
	}
}
