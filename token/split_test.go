package token_test

import (
	"slices"
	"strings"
	"testing"

	"bureau/api"
	"bureau/token"
)

func TestP154Examples(t *testing.T) {
	splits(t, "a; ;b -- c", "a", "b")
}

func TestP154Split(t *testing.T) {
	splits(t, "")
	splits(t, "a", "a")
	splits(t, "a;", "a")
	splits(t, ";a", "a")
	splits(t, ";;a;;b;;", "a", "b")
	splits(t, "a;b;c", "a", "b", "c")
	splits(t, "a;a;a", "a", "a", "a")
	splits(t, "select 1 ;\n select  'x' , ?1;", "select 1", "select  'x' , ?1")
	splits(t, "SELECT a--b\n,c;x'00'x", "SELECT a--b\n,c", "x'00'x")
	splits(t, "?;?1;1;'';x'';||", "?", "?1", "1", "''", "x''", "||")
}

func TestP154PiecesWithoutTokens(t *testing.T) {
	for _, s := range []string{" ", "\t\n\r", ";", ";;;", " ; ; ", "--", "--a", "--;", "-- ;'#", ";--", ";--\n;", "--;\n;--;", "--a\n--b"} {
		splits(t, s)
		splits(t, s+"\n;a;"+s, "a")
		splits(t, s+"\n;a;"+s+"\n;b;"+s, "a", "b")
	}
}

func TestP154Ends(t *testing.T) {
	for _, ahead := range []string{"", " ", "\n\t\r ", "--\n", "--x;y\n", " -- '\n--\n "} {
		for _, behind := range []string{"", " ", "\r\n", "--\n", "--x;y\n", " -- '\n--\n "} {
			splits(t, ahead+"a"+behind, "a")
			splits(t, ahead+"a"+behind+";"+ahead+"b c"+behind, "a", "b c")
			splits(t, ahead+"a--;\n+ b"+behind+";"+ahead+";"+behind, "a--;\n+ b")
			splits(t, ahead+"' a '"+behind+";"+ahead+"x'20'"+behind+"--;", "' a '", "x'20'")
			splits(t, ahead+"?"+behind+";"+ahead+"*"+behind, "?", "*")
		}
	}
	splits(t, "a- -b;-\n- c", "a- -b", "-\n- c")
	splits(t, "a--b", "a")
}

func TestP154SignsWithin(t *testing.T) {
	splits(t, "';'", "';'")
	splits(t, "a ';' b;c", "a ';' b", "c")
	splits(t, "'a;''b;';'c'", "'a;''b;'", "'c'")
	splits(t, "';;';';'", "';;'", "';'")
	splits(t, "a--b;c\n;d", "a", "d")
	splits(t, "a--b;c", "a")
	splits(t, "x'3b';c", "x'3b'", "c")
	splits(t, "a ','\n;','", "a ','", "','")
}

func TestP154Refused(t *testing.T) {
	for _, s := range []string{"#", "a;#", "a;b;'c", "a;'b;c", "x'3b;'", "x'0;'", "a;b|c;d", "a;!;", "\xff", ";;\x00", "a;b;x'0';c", "a;b\u00a0"} {
		for _, s := range []string{s, "a;" + s, strings.Repeat("a;", api.MaxSql) + s, s + strings.Repeat("\n;a", api.MaxSql)} {
			if l, e := token.Split(s); l != nil || e != api.ErrToken {
				t.Errorf("Split(%q) = %q %v", short(s), l, e)
			}
		}
	}
}

// A text of any length, in pieces of any length.
func TestP154Long(t *testing.T) {
	const n = 1 << 20
	for _, x := range []struct {
		s    string
		want []string
	}{
		{strings.Repeat("a", api.MaxSql+1), []string{strings.Repeat("a", api.MaxSql+1)}},
		{strings.Repeat("a", n), []string{strings.Repeat("a", n)}},
		{strings.Repeat(" ", n) + "a", []string{"a"}},
		{"a" + strings.Repeat(" ", n), []string{"a"}},
		{strings.Repeat("--\n", n) + "a;" + strings.Repeat("-", n), []string{"a"}},
		{strings.Repeat(";", n), nil},
		{strings.Repeat("a;", n), slices.Repeat([]string{"a"}, n)},
		{strings.Repeat("a b,", n), []string{strings.Repeat("a b,", n)}},
		{strings.Repeat("'", n), []string{strings.Repeat("'", n)}},
		{"x'" + strings.Repeat("0", n) + "'", []string{"x'" + strings.Repeat("0", n) + "'"}},
		{strings.Repeat("?1;\n", n), slices.Repeat([]string{"?1"}, n)},
	} {
		if l, e := token.Split(x.s); !slices.Equal(l, x.want) || e != api.OK {
			t.Errorf("%q, of %d bytes: %d pieces, %v", short(x.s), len(x.s), len(l), e)
		}
	}
	for _, s := range []string{strings.Repeat("a", n) + "#", strings.Repeat("'", n-1), "x'" + strings.Repeat("0", n-1) + "'", strings.Repeat("a;", n) + "|"} {
		if l, e := token.Split(s); l != nil || e != api.ErrToken {
			t.Errorf("%q, of %d bytes: %d pieces, %v", short(s), len(s), len(l), e)
		}
	}
}

// What Split answers is the caller's own.
func TestP154New(t *testing.T) {
	l, _ := token.Split("a;b;c")
	clear(l[:cap(l)])
	splits(t, "a;b;c", "a", "b", "c")
}
