package token_test

import (
	"encoding/hex"
	"math/rand"
	"regexp"
	"slices"
	"strings"
	"testing"

	"bureau/api"
	"bureau/token"
)

// The chapter's table as patterns, told another way than the program does.
var (
	gapLook  = regexp.MustCompile(`^(?:[ \t\n\r]|--[^\n]*)*`)
	wordLook = regexp.MustCompile(`^[A-Za-z_][A-Za-z0-9_]*`)
	intLook  = regexp.MustCompile(`^[0-9]+`)
	textLook = regexp.MustCompile(`^'(?:[^']|'')*'`)
	blobLook = regexp.MustCompile(`^[xX]'(?:[0-9a-fA-F]{2})*'`)
	parLook  = regexp.MustCompile(`^\?[0-9]*`)
	signLook = regexp.MustCompile(`^(?:\|\||==|<>|!=|<=|>=|[(),;.*+\-/%=<>])`)
	blobHead = regexp.MustCompile(`^[xX]'`)
)

// found is a token and the place behind it.
type found struct {
	api.Token
	end int
}

// tokensBy tells a text's tokens as the patterns have them, and the place where one begins that is none; that place is -1, if there is no such.
func tokensBy(sql string) ([]found, int) {
	var l []found
	for at := 0; ; {
		at += len(gapLook.FindString(sql[at:]))
		if at == len(sql) {
			return l, -1
		}
		t, size := tokenBy(sql[at:])
		if size == 0 {
			return l, at
		}
		t.At = at
		at += size
		l = append(l, found{t, at})
	}
}

func tokenBy(s string) (api.Token, int) {
	switch {
	case blobHead.MatchString(s):
		m := blobLook.FindString(s)
		if m == "" {
			return api.Token{}, 0
		}
		b, _ := hex.DecodeString(m[2 : len(m)-1])
		return blob(0, string(b)), len(m)
	case s[0] == '\'':
		m := textLook.FindString(s)
		if m == "" || strings.HasPrefix(s[len(m):], "'") { // its last quote stands twice
			return api.Token{}, 0
		}
		return text(0, strings.Join(strings.Split(m[1:len(m)-1], "''"), "'")), len(m)
	case wordLook.MatchString(s):
		m := wordLook.FindString(s)
		return word(0, m), len(m)
	case intLook.MatchString(s):
		m := intLook.FindString(s)
		return num(0, m), len(m)
	case parLook.MatchString(s):
		m := parLook.FindString(s)
		return param(0, m[1:]), len(m)
	}
	m := signLook.FindString(s)
	return sign(0, m), len(m)
}

// piecesBy tells the pieces between the signs that part them.
func piecesBy(sql string, l []found) []string {
	var pieces []string
	for len(l) > 0 {
		n := slices.IndexFunc(l, func(f found) bool { return f.Kind == api.TokSign && f.Text == ";" })
		if n < 0 {
			n = len(l)
		}
		if n > 0 {
			pieces = append(pieces, sql[l[0].At:l[n-1].end])
		}
		l = l[min(n+1, len(l)):]
	}
	return pieces
}

// agrees ends the test unless all calls answer what the patterns say; it tells whether the text is right.
func agrees(t *testing.T, sql string) bool {
	t.Helper()
	l, place := tokensBy(sql)
	want := make([]api.Token, len(l))
	for i, f := range l {
		want[i] = f.Token
	}
	if got := slices.Collect(token.All(sql)); !slices.Equal(got, want) {
		t.Fatalf("All(%q) = %v, not %v", sql, got, want)
	}
	got, at, e := token.Scan(sql)
	pieces, pe := token.Split(sql)
	if place >= 0 {
		if got != nil || at != place || e != api.ErrToken || pieces != nil || pe != api.ErrToken {
			t.Fatalf("%q, wrong at %d: Scan %v %d %v, Split %q %v", sql, place, got, at, e, pieces, pe)
		}
		return false
	}
	if !slices.Equal(got, want) || at != 0 || e != api.OK {
		t.Fatalf("Scan(%q) = %v %d %v, not %v", sql, got, at, e, want)
	}
	if p := piecesBy(sql, l); !slices.Equal(pieces, p) || pe != api.OK {
		t.Fatalf("Split(%q) = %q %v, not %q", sql, pieces, pe, p)
	}
	follows(t, sql, got)
	return true
}

// allShort goes over all texts of at most so many bytes of an alphabet.
func allShort(t *testing.T, alphabet string, most int) {
	t.Helper()
	texts, right, wrong := []string{""}, 0, 0
	for range most {
		var longer []string
		for _, s := range texts {
			for i := range len(alphabet) {
				longer = append(longer, s+alphabet[i:i+1])
			}
		}
		texts = longer
		for _, s := range texts {
			if agrees(t, s) {
				right++
			} else {
				wrong++
			}
		}
	}
	if right < 100 || wrong < 100 {
		t.Errorf("of %q: %d are right, %d are wrong", alphabet, right, wrong)
	}
}

func TestP151AllShortTexts(t *testing.T) {
	allShort(t, "aX_07'?-;\n <=|!.", 4)
	allShort(t, "x'0Ag ", 6)
	allShort(t, "-\n ;'a", 6)
	allShort(t, "<>=!|-", 6)
	var bytes []byte
	for b := range 256 {
		bytes = append(bytes, byte(b))
	}
	allShort(t, string(bytes), 2)
}

// drawnText puts pieces of texts together that stand close together or apart, and spoils some.
func drawnText(r *rand.Rand) string {
	parts := []string{"a", "x", "X", "_b1", "select", "0", "42", "'", "''", "'a'", "x'", "x'0", "X'Ab'", "x'00'", "?", "?7", "--", "-", "- ", "--c\n", "\n", "\r", "\t", " ", "  ", ";", "; ", "|", "||", "=", "!=", "<", ">", "(", ")", ",", ".", "*", "+", "/", "%", "\xff", "\x00", "#", "\"", "!"}
	var s strings.Builder
	for range r.Intn(14) {
		n := len(parts)
		if r.Intn(8) > 0 {
			n -= 5 // no byte that begins none
		}
		s.WriteString(parts[r.Intn(n)])
	}
	return s.String()
}

func TestP151DrawnTexts(t *testing.T) {
	r := rand.New(rand.NewSource(15))
	right, wrong := 0, 0
	for range 60000 {
		if agrees(t, drawnText(r)) {
			right++
		} else {
			wrong++
		}
	}
	if right < 5000 || wrong < 5000 {
		t.Errorf("%d are right, %d are wrong", right, wrong)
	}
}
