package token_test

import (
	"math/rand"
	"slices"
	"strings"
	"testing"

	"bureau/api"
	"bureau/token"
)

func isKeyword(t *testing.T, s, want string) {
	t.Helper()
	if k, is := token.Keyword(s); k != want || !is {
		t.Errorf("Keyword(%q) = %q %v", s, k, is)
	}
	if token.Name(s) {
		t.Errorf("%q is a name", s)
	}
}

func isNoKeyword(t *testing.T, s string) {
	t.Helper()
	if k, is := token.Keyword(s); k != "" || is {
		t.Errorf("Keyword(%q) = %q %v", short(s), k, is)
	}
}

func isName(t *testing.T, s string) {
	t.Helper()
	isNoKeyword(t, s)
	if !token.Name(s) {
		t.Errorf("%q is no name", s)
	}
}

func isNoName(t *testing.T, s string) {
	t.Helper()
	isNoKeyword(t, s)
	if token.Name(s) {
		t.Errorf("%q is a name", short(s))
	}
}

func TestP152Examples(t *testing.T) {
	isKeyword(t, "Select", "SELECT")
	isKeyword(t, "select", "SELECT")
	isName(t, "_a1")
	isNoName(t, "1a")
}

// anyCase writes a word with each letter in a case of its own.
func anyCase(r *rand.Rand, s string) string {
	b := []byte(strings.ToLower(s))
	for i := range b {
		if r.Intn(2) == 0 {
			b[i] = strings.ToUpper(s)[i]
		}
	}
	return string(b)
}

func TestP152Keywords(t *testing.T) {
	r := rand.New(rand.NewSource(2))
	for _, k := range keywords {
		isKeyword(t, k, k)
		isKeyword(t, strings.ToLower(k), k)
		isKeyword(t, k[:1]+strings.ToLower(k[1:]), k)
		isKeyword(t, strings.ToLower(k[:len(k)-1])+k[len(k)-1:], k)
		for range 8 {
			isKeyword(t, anyCase(r, k), k)
		}
	}
}

// Words that differ from a keyword by a byte.
func TestP152AlmostKeywords(t *testing.T) {
	for _, k := range keywords {
		for i := range len(k) {
			for _, s := range []string{k[:i] + k[i+1:], k[:i] + "_" + k[i+1:], k[:i] + "Q" + k[i+1:], k[:i] + "_" + k[i:], k[:i] + k[i:i+1] + k[i:]} {
				if !slices.Contains(keywords, s) && s != "" {
					isName(t, s)
				}
			}
			isNoName(t, k[:i]+string(rune(k[i]|0x80))+k[i+1:])
			isNoName(t, k[:i]+string([]byte{k[i] | 0x80})+k[i+1:])
			isNoName(t, k[:i]+string([]byte{k[i] ^ 0x40})+k[i+1:])
		}
		isNoName(t, k+" ")
		isNoName(t, " "+k)
		isNoName(t, k+"\x00")
		isNoName(t, k+","+k)
		isNoName(t, k+" "+keywords[0])
		isName(t, k+"_")
		isName(t, "_"+k)
		isName(t, k+"1")
	}
	for _, s := range []string{"\u017felect", "a\u017f", "li\u212ae", "\u212aey", "\u0131n", "\u0130n", "ON\u200b"} { // letters with cases in other alphabets
		isNoName(t, s)
	}
	for _, s := range []string{"integer", "TEXT", "blob", "binary", "nocase", "work", "count", "true", "escape", "natural", "autoincrement", "foreign", "references", "row", "xor"} { // keywords elsewhere, none here
		isName(t, s)
	}
}

func TestP152Names(t *testing.T) {
	const n = api.MaxName
	isNoName(t, "")
	for b := range 256 {
		s := string([]byte{byte(b)})
		letter := b == '_' || 'a' <= b && b <= 'z' || 'A' <= b && b <= 'Z'
		digit := '0' <= b && b <= '9'
		for _, x := range []struct {
			s  string
			is bool
		}{{s, letter}, {s + "q", letter}, {"q" + s, letter || digit}, {"q" + s + "q", letter || digit}, {s + s + s, letter}} {
			if x.is {
				isName(t, x.s)
			} else {
				isNoName(t, x.s)
			}
		}
	}
	for _, s := range []string{strings.Repeat("a", n), strings.Repeat("_", n), "Z" + strings.Repeat("9", n-1)} {
		isName(t, s)
		isNoName(t, s+"a")
		isNoName(t, s+"9")
		isNoName(t, strings.Repeat(s, 1<<15))
	}
	isNoName(t, strings.Repeat("9", n))
	isNoName(t, strings.Repeat("\xff", n))
	isNoName(t, strings.Repeat("select", 1<<15))
	for _, s := range []string{"x'00'", "'a'", "?1", "a.b", "a b", "a--", "*", "\xc3\xa4", "a\n"} {
		isNoName(t, s)
	}
}
