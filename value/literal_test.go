package value_test

import (
	"encoding/hex"
	"math"
	"math/rand"
	"regexp"
	"strconv"
	"strings"
	"testing"

	"bureau/api"
	"bureau/value"
)

func TestP24Print(t *testing.T) {
	for _, x := range []struct {
		v api.Value
		s string
	}{
		{null, "NULL"},
		{num(0), "0"}, {num(-5), "-5"}, {num(120), "120"},
		{num(math.MaxInt64), "9223372036854775807"}, {num(math.MinInt64), "-9223372036854775808"},
		{text(""), "''"}, {text("it's"), "'it''s'"}, {text("'"), "''''"}, {text("''"), "''''''"}, {text("'a'"), "'''a'''"},
		{text("NULL"), "'NULL'"}, {text("x'00'"), "'x''00'''"}, {text("a,b\n\x00\xff\""), "'a,b\n\x00\xff\"'"},
		{text(longest('\'')), "'" + strings.Repeat("''", api.MaxValue) + "'"}, {text(longest('a')), "'" + longest('a') + "'"},
		{blob(""), "x''"}, {blob("\x00\xab"), "x'00ab'"}, {blob("\xff\x0f\xf0'"), "x'ff0ff027'"}, {blob("\x12\x34\x56\x78\x9a\xbc\xde\xf0"), "x'123456789abcdef0'"},
		{blob(longest(0xcd)), "x'" + strings.Repeat("cd", api.MaxValue) + "'"},
	} {
		if s, e := value.Print(x.v); s != x.s || e != api.OK {
			t.Errorf("Print(%v) = %.30q %v", x.v, s, e)
		}
		if v, e := value.Read(x.s); v != x.v || e != api.OK {
			t.Errorf("Read(%.30q) = %v %v", x.s, v, e)
		}
	}
}

func TestP24PrintOfWhatMayNotBe(t *testing.T) {
	for _, v := range forbidden() {
		if s, e := value.Print(v); s != "" || e != api.ErrArg {
			t.Errorf("Print(%v) = %.30q %v", v, s, e)
		}
	}
}

func TestP24AlmostLiterals(t *testing.T) {
	for _, s := range []string{
		"", " ", "null", "Null", "NULl", "NUL", "NULLL", " NULL", "NULL ", "NULL,NULL",
		"05", "00", "-0", "-05", "+5", "+0", "-", "+", "--5", "- 5", "5 ", " 5", "5.0", "1e3", "1_000", "0x10", "5\x00", "\n5", "٣",
		"9223372036854775808", "-9223372036854775809", "18446744073709551615", "99999999999999999999", "-99999999999999999999", strings.Repeat("9", api.MaxLiteral),
		"a", "'", "'a", "a'", "'''", "'''''", "'a'b'", "'a'''b'", "''a'", "'a''", " 'a'", "'a' ", "'a','b'", "\"a\"", "'a'\x00",
		"x", "x'", "X'00'", "X''", "x'0'", "x'000'", "x'AB'", "x'aB'", "x'0g'", "x'g0'", "x'0 '", "x' 0'", "x'0''", "x'00", "x'00''", "x'''", "x''00'", "x00", "x 'ab'", " x'ab'", "x'ab' ", "x'0/'", "x'0:'", "x'0`'", "x'-1'", "x'+1'", "x'\xff\xff'", "xx'00'", "'00'x",
		"'" + longest('a') + "a'", "x'" + strings.Repeat("cd", api.MaxValue+1) + "'", "'" + strings.Repeat("''", api.MaxValue+1) + "'",
		strings.Repeat(" ", api.MaxLiteral), "'" + strings.Repeat("a", api.MaxLiteral-2) + "'", "x'" + strings.Repeat("0", api.MaxLiteral-4) + "'",
	} {
		if v, e := value.Read(s); v != null || e != api.ErrLit {
			t.Errorf("Read(%.30q) = %v %v", s, v, e)
		}
	}
}

func TestP24ReadOfLongTexts(t *testing.T) {
	for _, n := range []int{api.MaxLiteral + 1, api.MaxLiteral + 2, 1 << 20} {
		for _, s := range []string{strings.Repeat("a", n), strings.Repeat("1", n), "'" + strings.Repeat("a", n-2) + "'", "x'" + strings.Repeat("0", n-3) + "'"} {
			if v, e := value.Read(s); v != null || e != api.ErrLong {
				t.Errorf("%.10q of %d: %v %v", s, n, v, e)
			}
		}
	}
}

func TestP24PrintRow(t *testing.T) {
	for _, x := range []struct {
		row []api.Value
		s   string
	}{
		{nil, ""}, {[]api.Value{}, ""}, {[]api.Value{null}, "NULL"}, {[]api.Value{text("")}, "''"},
		{[]api.Value{num(1), text("a"), null}, "1,'a',NULL"},
		{[]api.Value{text("a,b"), text("'"), blob(",")}, "'a,b','''',x'2c'"},
		{make([]api.Value, api.MaxCols), strings.Repeat("NULL,", api.MaxCols-1) + "NULL"},
	} {
		if s, e := value.PrintRow(x.row...); s != x.s || e != api.OK {
			t.Errorf("PrintRow(%v) = %q %v", x.row, s, e)
		}
	}
}

func TestP24PrintRowRefused(t *testing.T) {
	if s, e := value.PrintRow(make([]api.Value, api.MaxCols+1)...); s != "" || e != api.ErrLong {
		t.Error("a long row:", s, e)
	}
	for _, bad := range forbidden() {
		for _, row := range [][]api.Value{{bad}, {num(1), bad}, append(make([]api.Value, api.MaxCols), bad)} {
			if s, e := value.PrintRow(row...); s != "" || e != api.ErrArg {
				t.Errorf("%v: %.30q %v", bad, s, e)
			}
		}
	}
}

// look is the form of literals, told another way than the program does.
var look = regexp.MustCompile(`(?s)^(?:NULL|0|-?[1-9][0-9]*|'(?:[^']|'')*'|x'(?:[0-9a-f]{2})*')$`)

// plainRead is Read as the document tells it, of texts that are not long.
func plainRead(s string) (api.Value, api.Errno) {
	if !look.MatchString(s) {
		return null, api.ErrLit
	}
	switch s[0] {
	case 'N':
		return null, api.OK
	case '\'':
		return text(strings.ReplaceAll(s[1:len(s)-1], "''", "'")), api.OK
	case 'x':
		b, _ := hex.DecodeString(s[2 : len(s)-1])
		return blob(string(b)), api.OK
	}
	n, err := strconv.ParseInt(s, 10, 64)
	if err != nil {
		return null, api.ErrLit
	}
	return num(n), api.OK
}

func expectRead(t *testing.T, s string) {
	t.Helper()
	want, wantErr := plainRead(s)
	v, e := value.Read(s)
	if v != want || e != wantErr {
		t.Fatalf("Read(%q) = %v %v, not %v %v", s, v, e, want, wantErr)
	}
	if e != api.OK {
		return
	}
	if again, e := value.Print(v); again != s || e != api.OK {
		t.Fatalf("Print of Read(%q) = %q %v", s, again, e)
	}
}

// Every short text of the bytes that literals are made of.
func TestP26AllShortTexts(t *testing.T) {
	const alphabet = "'x01aA- N\xff"
	texts := []string{""}
	for range 5 {
		var longer []string
		for _, s := range texts {
			for i := range len(alphabet) {
				longer = append(longer, s+alphabet[i:i+1])
			}
		}
		texts = longer
		for _, s := range texts {
			expectRead(t, s)
		}
	}
}

// Literals with one byte changed, taken out or put in.
func TestP26SpoiltLiterals(t *testing.T) {
	r := rand.New(rand.NewSource(2))
	const alphabet = "''x0179afAFgNUL-+ ,\x00\xff"
	for range 40000 {
		s, e := value.Print(anyValue(r, 12))
		if e != api.OK {
			t.Fatal(e)
		}
		at, b := r.Intn(len(s)), alphabet[r.Intn(len(alphabet))]
		expectRead(t, s[:at]+string([]byte{b})+s[at+1:])
		expectRead(t, s[:at]+s[at+1:])
		expectRead(t, s[:at]+string([]byte{b})+s[at:])
	}
}

func anyValue(r *rand.Rand, most int) api.Value {
	bytes := make([]byte, r.Intn(most+1))
	for i := range bytes {
		bytes[i] = "'' aA\x00\xffxN0"[r.Intn(10)]
		if r.Intn(3) == 0 {
			bytes[i] = byte(r.Intn(256))
		}
	}
	switch r.Intn(4) {
	case 0:
		return num(int64(r.Uint64()) >> r.Intn(64))
	case 1:
		return text(string(bytes))
	case 2:
		return blob(string(bytes))
	}
	return null
}

func TestP26ThereAndBack(t *testing.T) {
	r := rand.New(rand.NewSource(1))
	values := allowed()
	for range 20000 {
		values = append(values, anyValue(r, api.MaxValue))
	}
	met := map[string]api.Value{}
	for _, v := range values {
		s, e := value.Print(v)
		if e != api.OK || len(s) > api.MaxLiteral {
			t.Fatalf("Print(%v) = %.30q %v", v, s, e)
		}
		if again, e := value.Read(s); again != v || e != api.OK {
			t.Fatalf("Read(%.30q) = %v %v", s, again, e)
		}
		if old, ok := met[s]; ok && old != v {
			t.Fatalf("%v and %v have one literal", old, v)
		}
		met[s] = v
	}
}
