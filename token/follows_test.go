package token_test

import (
	"math/rand"
	"slices"
	"strings"
	"testing"

	"bureau/api"
	"bureau/token"
)

// areBlanks tells whether bytes are blanks and remarks alone; a remark that no byte 10 ends must end the text.
func areBlanks(s string, atEnd bool) bool {
	inRemark := false
	for i := 0; i < len(s); i++ {
		switch {
		case s[i] == '\n':
			inRemark = false
		case inRemark, s[i] == ' ', s[i] == '\t', s[i] == '\r':
		case s[i] == '-' && i+1 < len(s) && s[i+1] == '-':
			inRemark = true
			i++
		default:
			return false
		}
	}
	return atEnd || !inRemark
}

// asKinds is a list of tokens with no places.
func asKinds(l []api.Token) []api.Token {
	l = slices.Clone(l)
	for i := range l {
		l[i].At = 0
	}
	return l
}

// follows ends the test unless a right text and its tokens stand to each other as P15.5 says.
func follows(t *testing.T, sql string, l []api.Token) {
	t.Helper()
	if all := slices.Collect(token.All(sql)); !slices.Equal(all, l) {
		t.Fatalf("%q: All tells %v, Scan %v", sql, all, l)
	}
	printed, e := token.Print(l...)
	if e != api.OK {
		t.Fatalf("Print(%v) = %v", l, e)
	}
	again, at, e := token.Scan(printed)
	if len(printed) > api.MaxSql {
		if again != nil || at != 0 || e != api.ErrLong {
			t.Fatalf("%q: %v %d %v", short(printed), again, at, e)
		}
		return
	}
	if !slices.Equal(asKinds(again), asKinds(l)) || at != 0 || e != api.OK {
		t.Fatalf("%q: %v %d %v, not %v", printed, again, at, e, l)
	}
	end := 0
	for i, x := range l {
		if x.At < end || !areBlanks(sql[end:x.At], false) {
			t.Fatalf("%q: %q stands ahead of the token at %d", sql, sql[min(end, x.At):x.At], x.At)
		}
		end = behind(t, sql, l, i)
	}
	if !areBlanks(sql[end:], true) {
		t.Fatalf("%q: %q stands at the end", sql, sql[end:])
	}
}

// behind tells the place behind a token by what it must be written as: the case of a blob's digits alone is free.
func behind(t *testing.T, sql string, l []api.Token, i int) int {
	t.Helper()
	s, _ := token.Print(l[i])
	end := l[i].At + len(s)
	if end > len(sql) || l[i].Kind != api.TokBlob && sql[l[i].At:end] != s || l[i].Kind == api.TokBlob && !strings.EqualFold(sql[l[i].At:end], s) {
		t.Fatalf("%q: at %d stands no %q", sql, l[i].At, s)
	}
	return end
}

func drawnBytes(r *rand.Rand, most int, from string) string {
	b := make([]byte, r.Intn(most+1))
	for i := range b {
		if b[i] = byte(r.Intn(256)); from != "" {
			b[i] = from[r.Intn(len(from))]
		}
	}
	return string(b)
}

const (
	someDigits = "0123456789"
	someLetter = "abxXzAZ_qeSELCT"
)

func drawnToken(r *rand.Rand) api.Token {
	at := r.Intn(1000) - 500
	switch r.Intn(8) {
	case 0:
		return word(at, someLetter[r.Intn(10):][:1]+drawnBytes(r, 6, someLetter+someDigits))
	case 1:
		return word(at, anyCase(r, keywords[r.Intn(len(keywords))]))
	case 2:
		return num(at, someDigits[r.Intn(10):][:1]+drawnBytes(r, 20, someDigits))
	case 3:
		return text(at, drawnBytes(r, 12, "''a-;\n x\xff"))
	case 4:
		return text(at, drawnBytes(r, 12, ""))
	case 5:
		return blob(at, drawnBytes(r, 12, ""))
	case 6:
		return param(at, drawnBytes(r, 3, someDigits))
	}
	if r.Intn(2) == 0 {
		return sign(at, pairs[r.Intn(len(pairs))])
	}
	return sign(at, signs[r.Intn(len(signs))])
}

// Scripts of drawn tokens are printed and read again.
func TestP155ThereAndBack(t *testing.T) {
	r := rand.New(rand.NewSource(155))
	long := 0
	for n := range 20000 {
		most := 12
		if n%50 == 0 {
			most = 400
		}
		l := make([]api.Token, r.Intn(most))
		for i := range l {
			l[i] = drawnToken(r)
		}
		s, e := token.Print(l...)
		if e != api.OK {
			t.Fatalf("Print(%v) = %v", l, e)
		}
		if len(s) > api.MaxSql {
			long++
			tooLong(t, s)
			continue
		}
		got, at, e := token.Scan(s)
		if !slices.Equal(asKinds(got), asKinds(l)) || at != 0 || e != api.OK {
			t.Fatalf("%q: %v %d %v, not %v", s, got, at, e, l)
		}
		if again, e := token.Print(got...); again != s || e != api.OK {
			t.Fatalf("%q is printed as %q %v", s, again, e)
		}
		follows(t, s, got)
		parted(t, s, l)
	}
	if long < 50 {
		t.Errorf("%d are too long", long)
	}
}

// parted ends the test unless Split of printed tokens has their pieces, as they are printed.
func parted(t *testing.T, s string, l []api.Token) {
	t.Helper()
	var want []string
	for len(l) > 0 {
		n := 0
		for n < len(l) && (l[n].Kind != api.TokSign || l[n].Text != ";") {
			n++
		}
		if n > 0 {
			piece, _ := token.Print(l[:n]...)
			want = append(want, piece)
		}
		l = l[min(n+1, len(l)):]
	}
	if got, e := token.Split(s); !slices.Equal(got, want) || e != api.OK {
		t.Fatalf("Split(%q) = %q %v, not %q", s, got, e, want)
	}
}

// between draws a blank, and blanks and remarks behind it.
func between(r *rand.Rand) string {
	gaps := []string{" ", "\n", "\t", "\r", "--\n", "-- x'\n", "--;\xff\n"}
	s := gaps[r.Intn(4)]
	for range r.Intn(3) {
		s += gaps[r.Intn(len(gaps))]
	}
	return s
}

// The same tokens with any blanks and remarks between, and spoilt by a byte.
func TestP155Between(t *testing.T) {
	r := rand.New(rand.NewSource(1555))
	right, wrong := 0, 0
	for range 20000 {
		var want []api.Token
		s := between(r)
		for range r.Intn(8) {
			x := drawnToken(r)
			x.At = len(s)
			piece, _ := token.Print(x)
			s += piece + between(r)
			want = append(want, x)
		}
		scans(t, s, want...)
		agrees(t, s)
		at := r.Intn(len(s))
		for _, spoilt := range []string{s[:at] + s[at+1:], s[:at] + drawnBytes(r, 1, "") + s[at:], s[:at] + "'" + s[at:], s[:at] + "-" + s[at:]} {
			if agrees(t, spoilt) {
				right++
			} else {
				wrong++
			}
		}
		if t.Failed() {
			return
		}
	}
	if right < 5000 || wrong < 5000 {
		t.Errorf("%d are right, %d are wrong", right, wrong)
	}
}
