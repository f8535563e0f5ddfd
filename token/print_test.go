package token_test

import (
	"math"
	"slices"
	"strings"
	"testing"

	"bureau/api"
	"bureau/token"
	"bureau/value"
)

func TestP153Examples(t *testing.T) {
	l, _, _ := token.Scan("a<=1")
	prints(t, "a <= 1", l...)
}

func TestP153Print(t *testing.T) {
	prints(t, "")
	prints(t, "", []api.Token{}...)
	prints(t, "Select a , ?12 ; ? 007 - - 1", word(0, "Select"), word(0, "a"), sign(0, ","), param(0, "12"), sign(0, ";"), param(0, ""), num(0, "007"), sign(0, "-"), sign(0, "-"), num(0, "1"))
	prints(t, "x 'a' x'61' < = 1 2", word(0, "x"), text(0, "a"), blob(0, "a"), sign(0, "<"), sign(0, "="), num(0, "1"), num(0, "2"))
	prints(t, "'' '' x'' x''", text(0, ""), text(0, ""), blob(0, ""), blob(0, ""))
	for _, s := range append(append([]string{}, signs...), pairs...) {
		prints(t, s, sign(0, s))
		prints(t, s+" "+s, sign(0, s), sign(0, s))
	}
	for _, at := range []int{-1, 7, math.MinInt, math.MaxInt} { // no At is looked at
		prints(t, "a 1 'b' x'00' ?2 ||", word(at, "a"), num(at, "1"), text(at, "b"), blob(at, "\x00"), param(at, "2"), sign(at, "||"))
	}
	for _, s := range []string{"a", "_", "Z9", "select", "x", strings.Repeat("a", 33), strings.Repeat("b", 1<<16)} {
		prints(t, s, word(0, s))
	}
	for _, s := range []string{"0", "00", "9", strings.Repeat("1234567890", 1<<12)} {
		prints(t, s, num(0, s))
		prints(t, "?"+s, param(0, s))
	}
}

func TestP153Literals(t *testing.T) {
	prints(t, "'it''s'", text(0, "it's"))
	prints(t, "''''", text(0, "'"))
	prints(t, "'''a'''", text(0, "'a'"))
	prints(t, "'''''' ''''", text(0, "''"), text(0, "'"))
	prints(t, "'--\n;\x00\xff' x'2d2d0a3b00ff'", text(0, "--\n;\x00\xff"), blob(0, "--\n;\x00\xff"))
	var bytes []byte
	for b := range 256 {
		bytes = append(bytes, byte(b))
		s := string([]byte{byte(b)})
		for _, s := range []string{s, s + "a", "'" + s, s + s, strings.Repeat(s, api.MaxValue)} { // as layer 2 writes them
			v, _ := value.Text(s)
			literal, _ := value.Print(v)
			prints(t, literal, text(0, s))
			v, _ = value.Blob(s)
			literal, _ = value.Print(v)
			prints(t, literal, blob(0, s))
		}
	}
	const n = 1 << 16 // as many bytes as one likes
	prints(t, "'"+strings.Repeat("''", n)+"' x'"+strings.Repeat("27", n)+"'", text(0, strings.Repeat("'", n)), blob(0, strings.Repeat("'", n)))
	prints(t, "'"+strings.ReplaceAll(string(bytes), "'", "''")+"'", text(0, string(bytes)))
}

func TestP153TokensThatMayNotBe(t *testing.T) {
	for _, kind := range []api.TokKind{0, -1, 7, 8, -6, math.MinInt, math.MaxInt} {
		for _, s := range []string{"", "a", "1", "'", ";", "?", "||"} {
			mayNotBe(t, kind, s)
		}
	}
	for _, s := range []string{"", " ", "1", "1a", "a ", " a", "a b", "a-", "a.b", "'a'", "x'00'", "x'", "?", "a?", "a\n", "a--", "a\x00", "\xc3\xa4", "a\xff", "\u017f", ";", "a;", "@", "[", "`", "{", "a/", "a:"} {
		mayNotBe(t, api.TokWord, s)
	}
	for _, s := range []string{"", " ", "a", "_", "1a", "1_", "a1", "-1", "+1", "1 ", " 1", "1 2", "1.5", "0x1", "1\n", "\x00", "1--", "?1", "/", ":", "'1'", "\u0663", "1\xff"} {
		mayNotBe(t, api.TokInt, s)
		if s != "" {
			mayNotBe(t, api.TokParam, s)
		}
	}
	mayNotBe(t, api.TokParam, "?")
	for _, s := range []string{"", " ", "a", "1", "--", "|", "!", "|||", "<<", "=<", "=>", "><", "<==", "===", ";;", "()", "; ", " ;", "=\n", "= ", "= =", "?", "'", "''", "#", "\"", "[", "]", "{", "}", "&", "~", "^", "@", ":", "\\", "`", "$", "_", "\x00", "\xff", "|=", "!!", "=!", "||=", "<>=", "-1", "+-", "/*", "..", "**"} {
		mayNotBe(t, api.TokSign, s)
	}
}

// Of all texts of at most two bytes just the table's are signs, and so on.
func TestP153AllShortTexts(t *testing.T) {
	for n := range 1 + 256 + 256*256 {
		s := ""
		if n > 256 {
			s = string([]byte{byte((n - 257) >> 8), byte(n - 257)})
		} else if n > 0 {
			s = string([]byte{byte(n - 1)})
		}
		for _, c := range []struct {
			kind api.TokKind
			may  bool
			as   string
		}{
			{api.TokWord, wordLook.FindString(s) == s && s != "", s},
			{api.TokInt, intLook.FindString(s) == s && s != "", s},
			{api.TokParam, parLook.FindString("?"+s) == "?"+s, "?" + s},
			{api.TokSign, slices.Contains(signs, s) || slices.Contains(pairs, s), s},
		} {
			got, e := token.Print(api.Token{Kind: c.kind, Text: s})
			if c.may && (got != c.as || e != api.OK) || !c.may && (got != "" || e != api.ErrArg) {
				t.Fatalf("Print of kind %d, %q: %q %v", c.kind, s, got, e)
			}
		}
	}
}

// What is handed in is not changed, spare room behind it included.
func TestP153HandedIn(t *testing.T) {
	l := []api.Token{word(3, "a"), text(5, "it's"), param(9, ""), sign(1, ";"), blob(2, "'"), {Kind: 9, At: 9, Text: "9"}}
	before := slices.Clone(l)
	prints(t, "a 'it''s' ? ;", l[:4]...)
	mayNotBe(t, l[5].Kind, l[5].Text)
	if _, e := token.Print(l...); e != api.ErrArg || !slices.Equal(l, before) {
		t.Error(l, e)
	}
}
