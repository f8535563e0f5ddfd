package expr_test

import (
	"strings"
	"testing"

	"bureau/api"
	"bureau/expr"
)

// taken reads words, which may be more than a statement's text has, as they are parted.
func taken(t *testing.T, words []string) (api.Expr, api.Errno) {
	l := cut(t, words)
	e, at, _, no := expr.Take(l, 0, 0)
	if no == api.OK && at < len(l) {
		return e, api.ErrSyntax
	}
	return e, no
}

func takenSelect(t *testing.T, words []string) (api.Select, api.Errno) {
	l := cut(t, words)
	s, at, _, no := expr.TakeSelect(l, 0, 0)
	if no == api.OK && at < len(l) {
		return s, api.ErrSyntax
	}
	return s, no
}

func cut(t *testing.T, words []string) []api.Token {
	var l []api.Token
	for _, w := range words {
		if w != "~" {
			l = append(l, scanned(t, w)...)
		}
	}
	return l
}

// TestP165DrawnTrees prints drawn trees as the chapter's words do, and reads them from texts of any brackets, blanks, remarks and letters.
func TestP165DrawnTrees(t *testing.T) {
	d := newDrawer(1)
	for i := range 3000 {
		e := d.expr(1 + i%6)
		want := spelt(printed().expr(e))
		if s, no := expr.Print(e); no != api.OK || s != want {
			t.Fatalf("%+v is printed as %q, %v; not %q", e, s, no, want)
		}
		if len(want) <= api.MaxSql {
			reads(t, want, e)
		}
		for range 3 {
			words := d.speller().expr(e)
			if got, no := taken(t, words); no != api.OK || !expr.Same(got, e) {
				t.Fatalf("%q is read as %+v, %v; not %+v", words, got, no, e)
			}
			if s := d.joined(words); len(s) <= api.MaxSql {
				reads(t, s, e)
			}
		}
	}
}

func TestP165DrawnSelects(t *testing.T) {
	d := newDrawer(2)
	for i := range 1000 {
		s := d.whole(1 + i%6)
		want := spelt(printed().sel(s))
		if got, no := expr.PrintSelect(s); no != api.OK || got != want {
			t.Fatalf("%+v is printed as %q, %v; not %q", s, got, no, want)
		}
		if len(want) <= api.MaxSql {
			readsSelect(t, want, s)
		}
		for range 3 {
			words := d.speller().sel(s)
			if got, no := takenSelect(t, words); no != api.OK || !expr.SameSelect(got, s) {
				t.Fatalf("%q is read as %+v, %v; not %+v", words, got, no, s)
			}
			if sql := d.joined(words); len(sql) <= api.MaxSql {
				readsSelect(t, sql, s)
			}
		}
	}
}

// speller spells by the levels, with more brackets now and then, and any of the ways to say the same.
func (d *drawer) speller() *speller {
	more := d.Intn(5)
	return &speller{
		glue:     "~",
		brackets: func(e api.Expr, wanted int) bool { return byLevels(e, wanted) || d.Intn(10) < more },
		choose:   func(ways ...string) string { return ways[d.Intn(len(ways))] },
	}
}

// joined lays blanks and remarks between words, none where the tokens are told apart all the same.
func (d *drawer) joined(words []string) string {
	var b strings.Builder
	last := ""
	for _, w := range words {
		if w == "~" {
			continue
		}
		if d.Intn(3) == 0 && w != "REPLACE" && strings.Contains(" "+keywords+" ", " "+w+" ") {
			w = strings.ToLower(w)
		}
		switch {
		case d.Intn(4) == 0 && last != "-":
			b.WriteString([]string{" ", "\n", "\t\r ", " -- a remark'\n", "--\n"}[d.Intn(5)])
		case !apart(last, w):
			b.WriteString(" ")
		}
		b.WriteString(w)
		last = w
	}
	return b.String()
}

// apart says that two words need no blank between them.
func apart(x, y string) bool {
	if x == "" {
		return true
	}
	if one := "(),.*+/%"; strings.Contains(one, x) || strings.Contains(one, y) {
		return true
	}
	sign := func(s string) bool { return strings.Contains("-=<>!|", s[:1]) }
	return sign(x) != sign(y)
}

// TestP165PrintedAgain: what was read is printed, read as the same, and printed as the same.
func TestP165PrintedAgain(t *testing.T) {
	w := newWriter(7)
	for i := range 600 {
		if i%2 == 0 {
			e, no := taken(t, w.text("or"))
			s, f := expr.Print(e)
			if no != api.OK || f != api.OK && f != api.ErrDeep {
				t.Fatal(e, no, f)
			}
			if f == api.OK && len(s) <= api.MaxSql {
				reads(t, s, e)
			}
			continue
		}
		q, no := takenSelect(t, w.text("select"))
		s, f := expr.PrintSelect(q)
		if no != api.OK || f != api.OK && f != api.ErrDeep {
			t.Fatal(q, no, f)
		}
		if f == api.OK && len(s) <= api.MaxSql {
			readsSelect(t, s, q)
		}
	}
}
