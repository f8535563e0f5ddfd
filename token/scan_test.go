package token_test

import (
	"strings"
	"testing"

	"bureau/api"
	"bureau/token"
)

func TestP151Examples(t *testing.T) {
	scans(t, "a<=1--x", word(0, "a"), sign(1, "<="), num(3, "1"))
	scans(t, "'it''s'x'0A'", text(0, "it's"), blob(7, "\n"))
	scans(t, "?1?", param(0, "1"), param(2, ""))
	fails(t, "a #", 2, word(0, "a"))
	fails(t, "'a", 0)
	fails(t, "x'0'", 0)
	fails(t, "!a", 0)
}

func TestP151Statement(t *testing.T) {
	scans(t, "SELECT a.b, x'Ff' || 'y' -- why\n\tFROM t1 WHERE c>=?12;",
		word(0, "SELECT"), word(7, "a"), sign(8, "."), word(9, "b"), sign(10, ","), blob(12, "\xff"), sign(18, "||"), text(21, "y"),
		word(33, "FROM"), word(38, "t1"), word(41, "WHERE"), word(47, "c"), sign(48, ">="), param(50, "12"), sign(53, ";"))
}

func TestP151Blanks(t *testing.T) {
	for _, blank := range []string{"", " ", "\t", "\n", "\r", "\r\n \t", "--\n", "--a\n", "-- \"#\x00\xff' --\n", "---\n", " --\n--\r--x\n ", "\n\n"} {
		n := len(blank)
		scans(t, blank)
		scans(t, blank+"a", word(n, "a"))
		scans(t, "a"+blank, word(0, "a"))
		scans(t, "a"+blank+";", word(0, "a"), sign(1+n, ";"))
		scans(t, blank+"?"+blank+"'b'"+blank, param(n, ""), text(2*n+1, "b"))
		if n > 0 {
			scans(t, "a"+blank+"b", word(0, "a"), word(1+n, "b"))
			scans(t, "?"+blank+"1", param(0, ""), num(1+n, "1"))
			scans(t, "x"+blank+"'00'", word(0, "x"), text(1+n, "00"))
			scans(t, "'a'"+blank+"'b'", text(0, "a"), text(3+n, "b"))
			scans(t, "<"+blank+"=", sign(0, "<"), sign(1+n, "="))
		}
		fails(t, blank+"#"+blank, n)
	}
	for _, s := range []string{"--", "--a", "-- ", "---", "----", "--'", "--#\r;", "--\xff\x00"} { // remarks to the end
		scans(t, s)
		scans(t, "\n"+s)
		scans(t, "a"+s, word(0, "a"))
		scans(t, s+"\n"+s)
		scans(t, s+"\na", word(len(s)+1, "a"))
	}
	scans(t, "a -\n- b", word(0, "a"), sign(2, "-"), sign(4, "-"), word(6, "b"))
	scans(t, "a - -", word(0, "a"), sign(2, "-"), sign(4, "-"))
	scans(t, "-", sign(0, "-"))
	for b := range 256 { // no other byte is a blank
		if s := string([]byte{byte(b)}); !strings.Contains(" \t\n\r", s) {
			if l, at, e := token.Scan("a " + s); len(l) == 1 || (at != 0) != (e != api.OK) {
				t.Errorf("the byte %d: %v %d %v", b, l, at, e)
			}
		}
	}
}

func TestP151Words(t *testing.T) {
	for _, s := range []string{"a", "z", "A", "Z", "_", "x", "X", "_1", "a1", "aZ_09zA", "select", "SELECT", "x1", "xx", "__", strings.Repeat("a", 33), strings.Repeat("_9", 1000)} {
		scans(t, s, word(0, s))
	}
	scans(t, "1a", num(0, "1"), word(1, "a"))
	scans(t, "007_", num(0, "007"), word(3, "_"))
	scans(t, "12e3", num(0, "12"), word(2, "e3"))
	scans(t, "0x1F", num(0, "0"), word(1, "x1F"))
	scans(t, "1.5", num(0, "1"), sign(1, "."), num(2, "5"))
	scans(t, "a.b", word(0, "a"), sign(1, "."), word(2, "b"))
	scans(t, "a'b'c", word(0, "a"), text(1, "b"), word(4, "c"))
	fails(t, "a@b", 1, word(0, "a"))
	fails(t, "a[b", 1, word(0, "a"))
	fails(t, "a`b", 1, word(0, "a"))
	fails(t, "a{b", 1, word(0, "a"))
	fails(t, "a$", 1, word(0, "a"))
	fails(t, "a:b", 1, word(0, "a"))
	fails(t, "a\xc3\xa4", 1, word(0, "a"))
	fails(t, "\u017f", 0) // letters of other alphabets, which have a capital S and a small k
	fails(t, "\u212a", 0)
}

func TestP151Ints(t *testing.T) {
	for _, s := range []string{"0", "9", "00", "0123456789", "9223372036854775808", strings.Repeat("7", api.MaxSql)} {
		scans(t, s, num(0, s))
	}
	scans(t, "1 2", num(0, "1"), num(2, "2"))
	scans(t, "-5", sign(0, "-"), num(1, "5"))
	scans(t, "1'a'", num(0, "1"), text(1, "a"))
	scans(t, "1x'61'", num(0, "1"), blob(1, "a"))
	scans(t, "1?2", num(0, "1"), param(1, "2"))
	fails(t, "1/2:", 3, num(0, "1"), sign(1, "/"), num(2, "2"))
}

func TestP151Texts(t *testing.T) {
	scans(t, "''", text(0, ""))
	scans(t, "''''", text(0, "'"))
	scans(t, "''''''", text(0, "''"))
	scans(t, "' '", text(0, " "))
	scans(t, "'a''b'", text(0, "a'b"))
	scans(t, "'''a'", text(0, "'a"))
	scans(t, "'a'''", text(0, "a'"))
	scans(t, "'a''''b'", text(0, "a''b"))
	scans(t, "'a' 'b'", text(0, "a"), text(4, "b"))
	scans(t, "'a'b'c'", text(0, "a"), word(3, "b"), text(4, "c"))
	scans(t, "'a'--'b'", text(0, "a"))
	scans(t, "'--'", text(0, "--"))
	scans(t, "'--\n;'", text(0, "--\n;"))
	scans(t, "'a'x''", text(0, "a"), blob(3, ""))
	scans(t, "'\x00\x0b\n\xff\xc3\xa4\u2019\"#'", text(0, "\x00\x0b\n\xff\xc3\xa4\u2019\"#"))
	scans(t, "'"+strings.Repeat("a", api.MaxSql-2)+"'", text(0, strings.Repeat("a", api.MaxSql-2))) // above MaxValue too
	scans(t, strings.Repeat("'", api.MaxSql), text(0, strings.Repeat("'", api.MaxSql/2-1)))
	for b := range 256 {
		if s := string([]byte{byte(b)}); b != '\'' {
			scans(t, "'"+s+"'", text(0, s))
			scans(t, "'"+s+"'''", text(0, s+"'"))
			fails(t, "'"+s, 0)
		}
	}
}

func TestP151TextsThatDoNotEnd(t *testing.T) {
	for _, s := range []string{"'", "'''", "'''''", "'a", "'a''", "'a''b", "'''a", "'\n", "'--", "'a;b", "'x''", strings.Repeat("'", api.MaxSql-1), "'" + strings.Repeat("a", api.MaxSql-1)} {
		fails(t, s, 0)
	}
	fails(t, "a 'b", 2, word(0, "a"))
	fails(t, "1 'x''", 2, num(0, "1"))
	fails(t, "'a' '", 4, text(0, "a"))
	fails(t, "'a'b'", 4, text(0, "a"), word(3, "b"))
	fails(t, "--'\n'", 4)
}

func TestP151Blobs(t *testing.T) {
	for _, x := range []string{"x", "X"} {
		scans(t, x+"''", blob(0, ""))
		scans(t, x+"'00'", blob(0, "\x00"))
		scans(t, x+"'fF'", blob(0, "\xff"))
		scans(t, x+"'Af09aF90'", blob(0, "\xaf\x09\xaf\x90"))
		scans(t, x+"'0123456789abcdefABCDEF'", blob(0, "\x01\x23\x45\x67\x89\xab\xcd\xef\xab\xcd\xef"))
		scans(t, x+"'27'", blob(0, "'"))
		scans(t, x+"'00''11'", blob(0, "\x00"), text(5, "11"))
		scans(t, x+"''''", blob(0, ""), text(3, ""))
		scans(t, x+"'00'"+x+"'11'", blob(0, "\x00"), blob(5, "\x11"))
		scans(t, x+"'00'a", blob(0, "\x00"), word(5, "a"))
		scans(t, x+"'00'--'", blob(0, "\x00"))
		scans(t, "a "+x+"'61'", word(0, "a"), blob(2, "a"))
		scans(t, "1"+x+"'61'", num(0, "1"), blob(1, "a"))
		scans(t, "'1'"+x+"'61'", text(0, "1"), blob(3, "a"))
		scans(t, "?"+x+"'61'", param(0, ""), blob(1, "a"))
		scans(t, "("+x+"'61')", sign(0, "("), blob(1, "a"), sign(6, ")"))
		scans(t, x+x+"'61'", word(0, x+x), text(2, "61")) // no blob begins within a word
		scans(t, "_"+x+"'61'", word(0, "_"+x), text(2, "61"))
		scans(t, x+"1'61'", word(0, x+"1"), text(2, "61"))
		scans(t, x+" '61'", word(0, x), text(2, "61"))
		scans(t, x+"--\n'61'", word(0, x), text(4, "61"))
		scans(t, x, word(0, x))
		scans(t, x+"+", word(0, x), sign(1, "+"))
		scans(t, x+"'"+strings.Repeat("41", api.MaxSql/2-2)+"' ", blob(0, strings.Repeat("A", api.MaxSql/2-2)))
	}
	for b := range 256 {
		const digits = "0123456789abcdef"
		s := string([]byte{digits[b>>4], digits[b&15]})
		scans(t, "x'"+s+"'", blob(0, string([]byte{byte(b)})))
		scans(t, "x'"+strings.ToUpper(s)+"7b'", blob(0, string([]byte{byte(b), '{'})))
	}
}

func TestP151BlobsThatAreNone(t *testing.T) {
	for _, x := range []string{"x", "X"} {
		for _, s := range []string{"'", "'0", "'00", "'0'", "'000'", "'00000'", "'0 '", "' 00'", "'00 '", "'0 0'", "'0g'", "'g0'", "'0G'", "'x'", "'00\n'", "'-1'", "'+1'", "'0x'", "'--", "'00--'", "'0''0'", "'00;", "'0'00'", "'\xff\xff'"} {
			fails(t, x+s, 0)
			fails(t, x+s+" a", 0)
			fails(t, "a "+x+s, 2, word(0, "a"))
		}
		for b := range 256 {
			s := string([]byte{byte(b)})
			if !strings.Contains("0123456789abcdefABCDEF", s) {
				fails(t, x+"'0"+s+"'", 0)
				if b != '\'' {
					fails(t, x+"'"+s+"0'", 0)
				}
			}
		}
	}
	fails(t, "x'00''", 5, blob(0, "\x00"))
}

func TestP151Params(t *testing.T) {
	scans(t, "?", param(0, ""))
	scans(t, "??", param(0, ""), param(1, ""))
	scans(t, "?0", param(0, "0"))
	scans(t, "?0123456789", param(0, "0123456789"))
	scans(t, "?17 ?999999999999999999999", param(0, "17"), param(4, "999999999999999999999"))
	scans(t, "?1a", param(0, "1"), word(2, "a"))
	scans(t, "?a", param(0, ""), word(1, "a"))
	scans(t, "? 1", param(0, ""), num(2, "1"))
	scans(t, "?--1", param(0, ""))
	scans(t, "?-1", param(0, ""), sign(1, "-"), num(2, "1"))
	scans(t, "?'1'", param(0, ""), text(1, "1"))
	scans(t, "?1?2?", param(0, "1"), param(2, "2"), param(4, ""))
	scans(t, "a?1", word(0, "a"), param(1, "1"))
	scans(t, "?"+strings.Repeat("1", api.MaxSql-1), param(0, strings.Repeat("1", api.MaxSql-1)))
}

func TestP151Signs(t *testing.T) {
	for _, s := range append(append([]string{}, signs...), pairs...) {
		n := len(s)
		scans(t, s, sign(0, s))
		scans(t, "a"+s+"b", word(0, "a"), sign(1, s), word(1+n, "b"))
		scans(t, s+"1"+s, sign(0, s), num(n, "1"), sign(n+1, s))
		scans(t, "'a'"+s+"'b'", text(0, "a"), sign(3, s), text(3+n, "b"))
		scans(t, s+" "+s, sign(0, s), sign(n+1, s))
		scans(t, s+"?", sign(0, s), param(n, ""))
		scans(t, s+"x'61'", sign(0, s), blob(n, "a"))
	}
	for _, c := range []struct{ s, l string }{ // signs that stand close together
		{"<==", "<= ="}, {"===", "== ="}, {"====", "== =="}, {"=====", "== == ="}, {"=<", "= <"}, {"=>", "= >"}, {"=<=", "= <="}, {"=>=", "= >="}, {"<=>", "<= >"}, {"<>=", "<> ="}, {"<<", "< <"}, {">>", "> >"}, {"><", "> <"},
		{"<<>", "< <>"}, {"<>>", "<> >"}, {">>=", "> >="}, {"><=", "> <="}, {"!==", "!= ="}, {"!=!=", "!= !="}, {"||||", "|| ||"}, {"||!=", "|| !="}, {"=!=", "= !="}, {"==!=", "== !="}, {"-=", "- ="}, {"<-", "< -"}, {"-+-", "- + -"},
		{"((", "( ("}, {"();", "( ) ;"}, {",;.*+/%", ", ; . * + / %"}, {"*/", "* /"}, {"/*", "/ *"}, {"..", ". ."}, {"-||-", "- || -"}, {"++", "+ +"}, {"%%", "% %"}, {">-=", "> - ="},
	} {
		var want []api.Token
		at := 0
		for _, s := range strings.Fields(c.l) {
			want = append(want, sign(at, s))
			at += len(s)
		}
		scans(t, c.s, want...)
	}
	scans(t, "<--=", sign(0, "<"))
	scans(t, "<--\n=", sign(0, "<"), sign(4, "="))
	scans(t, "=---1", sign(0, "="))
}

func TestP151BytesThatBeginNone(t *testing.T) {
	for b := range 256 {
		s := string([]byte{byte(b)})
		if b < 127 && b > 32 && !strings.Contains("!\"#$&:@[\\]^`{|}~", s) || strings.Contains(" \t\n\r", s) {
			continue
		}
		fails(t, s, 0)
		fails(t, s+"-"+s, 0)
		fails(t, s+" ", 0)
		fails(t, " "+s+"a", 1)
		fails(t, "a"+s, 1, word(0, "a"))
		fails(t, "1 "+s+" 'a", 2, num(0, "1"))
		fails(t, "'a'"+s, 3, text(0, "a"))
		fails(t, "x'61'"+s, 5, blob(0, "a"))
		fails(t, "?1"+s, 2, param(0, "1"))
		fails(t, "<"+s, 1, sign(0, "<"))
		fails(t, "--\n"+s, 3)
		scans(t, "--"+s)
	}
	fails(t, "|", 0)
	fails(t, "| |", 0)
	fails(t, "a |b", 2, word(0, "a"))
	fails(t, "|--\n|", 0)
	fails(t, "|=", 0)
	fails(t, "|||", 2, sign(0, "||"))
	fails(t, "!", 0)
	fails(t, "! =", 0)
	fails(t, "!!=", 0)
	fails(t, "=!", 1, sign(0, "="))
	fails(t, "!<", 0)
	fails(t, "a b # c 'd", 4, word(0, "a"), word(2, "b"))
	fails(t, "'a #", 0)
	fails(t, "\xef\xbb\xbfselect", 0)
	fails(t, "a\xc2\xa0b", 1, word(0, "a"))
}

func TestP151Length(t *testing.T) {
	const n = api.MaxSql
	scans(t, strings.Repeat("a", n), word(0, strings.Repeat("a", n)))
	scans(t, strings.Repeat(" ", n-1)+"a", word(n-1, "a"))
	scans(t, strings.Repeat(" ", n))
	scans(t, "a--"+strings.Repeat("#", n-3), word(0, "a"))
	fails(t, strings.Repeat(" ", n-1)+"#", n-1)
	fails(t, strings.Repeat(" ", n-1)+"'", n-1)
	var many []api.Token
	for i := range n {
		many = append(many, sign(i, ";"))
	}
	scans(t, strings.Repeat(";", n), many...)
	for _, s := range []string{"a", " ", ";", "#", "'", "--", "?", "1", "\xff"} {
		tooLong(t, strings.Repeat(s, n+1))
		tooLong(t, strings.Repeat(s, 1<<18))
	}
	tooLong(t, strings.Repeat(" ", n)+"a")
	tooLong(t, "a"+strings.Repeat(" ", n))
	tooLong(t, "#"+strings.Repeat(" ", n))
	tooLong(t, strings.Repeat(" ", n)+"#")
}

// What Scan answers is the caller's own.
func TestP151New(t *testing.T) {
	const sql = "a 'b' ?1"
	l, _, _ := token.Scan(sql)
	clear(l[:cap(l)])
	scans(t, sql, word(0, "a"), text(2, "b"), param(6, "1"))
}
