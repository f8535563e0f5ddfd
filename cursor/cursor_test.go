package cursor_test

import (
	"slices"
	"strings"
	"testing"

	"bureau/api"
	"bureau/cursor"
	"bureau/token"
)

func at(t *testing.T, sql string, place int) *cursor.Cursor {
	t.Helper()
	l, _, no := token.Scan(sql)
	if no != api.OK {
		t.Fatal(sql, no)
	}
	c := cursor.New(l, place)
	return &c
}

// fails tells whether a call gives up, and where the cursor stands then.
func fails(c *cursor.Cursor, call func()) (is bool, place int) {
	defer func() {
		if x := recover(); x != nil {
			is, place = cursor.Refusal(x) == api.ErrSyntax, c.At
		}
	}()
	call()
	return false, c.At
}

func TestMarks(t *testing.T) {
	want := []string{"SELECT", "", ",", "", "<=", "", "", "", ";", ""}
	c := at(t, "sElect a, 'from' <= ?1 12 x'' ;", 0)
	for i, mark := range want {
		if c.Mark(i) != mark || c.At != i || c.Now != mark {
			t.Error(i, c.Mark(i), c.At, c.Now)
		}
		c.Step()
	}
	for _, place := range []int{-5, -1, 0} {
		if c := at(t, "a b", place); c.At != 0 || c.Token().Text != "a" {
			t.Error(place, c.At)
		}
	}
	for _, place := range []int{2, 3, 99} {
		if c := at(t, "a b", place); c.At != 2 || c.Token() != (api.Token{}) || c.Now != "" || c.AtName() {
			t.Error(place, c.At)
		}
	}
	hand := []api.Token{{Kind: api.TokSign, Text: "select"}, {Kind: api.TokText, Text: "SELECT"}, {Kind: 99, Text: ","}, {Kind: api.TokText, Text: "a"}}
	for i := range hand {
		if c := cursor.New(hand, i); c.Now != "" || c.AtName() {
			t.Error(hand[i], c.Now)
		}
	}
}

func TestTakes(t *testing.T) {
	c := at(t, "create table t", 0)
	if c.Takes("TABLE") || c.At != 0 || !c.Takes("CREATE") || c.At != 1 {
		t.Error(c.At)
	}
	c.Want("TABLE")
	if is, place := fails(c, func() { c.Want("IF", "NOT") }); !is || place != 2 {
		t.Error(is, place)
	}
	c.GoTo(0)
	if is, place := fails(c, func() { c.Want("CREATE", "VIEW") }); !is || place != 1 {
		t.Error(is, place)
	}
}

func TestNames(t *testing.T) {
	c := at(t, "a b select 'a' noCase", 0)
	if !c.AtName() || c.Name() != "a" || c.Text() != "b" || c.AtName() {
		t.Error(c.At)
	}
	isRule := func(w string) bool { return strings.EqualFold(w, "NOCASE") }
	for _, place := range []int{2, 3, 5} {
		c.GoTo(place)
		if is, at := fails(c, func() { c.Name() }); !is || at != place {
			t.Error(is, at)
		}
		if is, at := fails(c, func() { c.Word(isRule) }); !is || at != place {
			t.Error(is, at)
		}
	}
	c.GoTo(4)
	if c.Word(isRule) != "noCase" || c.At != 5 {
		t.Error(c.At)
	}
}

func TestLists(t *testing.T) {
	for _, x := range []struct {
		sql   string
		want  []string
		place int
		fails bool
	}{
		{"(a)", []string{"a"}, 3, false}, {"(a, b, a) c", []string{"a", "b", "a"}, 7, false}, {"a", nil, 0, false}, {"", nil, 0, false}, {"()", nil, 1, true}, {"(a", nil, 2, true}, {"(a b)", nil, 2, true}, {"(a,)", nil, 3, true}, {"(a, 1)", nil, 3, true}, {"(select)", nil, 1, true},
	} {
		c := at(t, x.sql, 0)
		var got []string
		is, place := fails(c, func() { got = c.Names() })
		if is != x.fails || place != x.place || !slices.Equal(got, x.want) {
			t.Error(x.sql, got, place, is)
		}
	}
}

// TestOtherPanics: what is given up elsewhere is not taken for a refusal.
func TestOtherPanics(t *testing.T) {
	defer func() {
		if x := recover(); x != "other" {
			t.Error(x)
		}
	}()
	cursor.Refusal("other")
}
