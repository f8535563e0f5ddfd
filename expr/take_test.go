package expr_test

import (
	"math"
	"slices"
	"testing"

	"bureau/api"
	"bureau/expr"
)

func TestP162LongestBeginning(t *testing.T) {
	for _, x := range []struct {
		sql    string
		at     int
		want   api.Expr
		behind int
	}{
		{"a b", 0, a, 1}, {"a b", 1, b, 2}, {"a + b c", 0, op(api.OpAdd, a, b), 3}, {"a , b", 0, a, 1}, {"a ) b", 0, a, 1}, {"a AS b", 0, a, 1}, {"a ; b", 0, a, 1}, {"( a ) b", 0, a, 3}, {"a = b ) c", 2, b, 3}, {"a DESC", 0, a, 1}, {"a FROM t", 0, a, 1}, {"a THEN", 0, a, 1},
		{"NOT EXISTS ( SELECT a ) + b", 0, not(exists(sel(a))), 6}, {"NOT EXISTS ( SELECT a ) = b", 0, not(exists(sel(a))), 6}, {"NOT EXISTS ( SELECT a ) COLLATE binary", 0, not(exists(sel(a))), 6}, {"NOT EXISTS ( SELECT a ) AND b )", 0, op(api.OpAnd, not(exists(sel(a))), b), 8},
		{"t . a . b", 0, of("t", "a"), 3}, {"f ( a ) ( b", 0, call("f", 0, a), 4}, {"1 1", 0, num(1), 1}, {"a COLLATE rtrim rtrim", 0, collate(a, "rtrim"), 3}, {"CASE a WHEN b THEN c END END", 0, cases(1, a, b, c), 7}, {"a 9223372036854775808", 0, a, 1}, {"a ?99", 0, a, 1}, {"a ( b )", 2, b, 3}, {"9 a b c", -5, num(9), 1}, {"a IS", 0, api.Expr{}, -2}, {"a IN ( b ) OR c d", 0, op(api.OpOr, op(api.OpIn, a, b), c), 7},
		{"a NOT", 0, api.Expr{}, -2}, {"a NOT b", 0, api.Expr{}, -2}, {"a NOT NULL", 0, api.Expr{}, -2}, {"a + )", 0, api.Expr{}, -2}, {"a COLLATE b", 0, api.Expr{}, -2}, {"a .", 0, api.Expr{}, -2}, {"a . 1", 0, api.Expr{}, -2}, {"a BETWEEN b OR", 0, api.Expr{}, -3}, {"a ( b", 0, api.Expr{}, -3}, {"f ( a b", 0, api.Expr{}, -3}, {"a b c", 3, api.Expr{}, -3}, {"a b c", 4, api.Expr{}, -3}, {"a b c", math.MaxInt, api.Expr{}, -3}, {", a", math.MinInt, api.Expr{}, 0}, {"a = SELECT", 0, api.Expr{}, -2}, {"( a ; )", 0, api.Expr{}, -2}, {"", 0, api.Expr{}, 0}, {"", 7, api.Expr{}, 0},
	} {
		l := tokens(t, x.sql)
		e, at, params, no := expr.Take(l, x.at, 0)
		if want := x.behind > 0; (no == api.OK) != want || at != max(x.behind, -x.behind) || params != 0 || !expr.Same(e, x.want) || no != api.OK && no != api.ErrSyntax {
			t.Errorf("%q from %d: %+v, %d, %d, %v", x.sql, x.at, e, at, params, no)
		}
	}
}

func TestP162SelectsLongestBeginning(t *testing.T) {
	limited := sel(a)
	limited.Limit = one(b)
	whole := sel(a)
	whole.With = []api.Cte{{Name: "w", Body: subs(sel(b))}}
	for _, x := range []struct {
		sql    string
		at     int
		want   api.Select
		behind int
	}{
		{"SELECT a ;", 0, sel(a), 2}, {"x SELECT a )", 1, sel(a), 3}, {"SELECT a LIMIT b , c", 0, limited, 4}, {"SELECT a LIMIT b UNION SELECT c", 0, limited, 4}, {"WITH w AS ( SELECT b ) SELECT a WITH", 0, whole, 9}, {"SELECT * a", 0, parts(api.Part{Items: []api.Item{{Star: true}}}), 2}, {"VALUES ( a ) ( b )", 0, parts(values(one(a))), 4}, {"VALUES ( a ) x", 0, parts(values(one(a))), 4}, {"SELECT a HAVING b", 0, sel(a), 2}, {"SELECT a OFFSET b", 0, sel(a), 2},
		{"SELECT * FROM t u v", 0, parts(from(api.Source{Name: "t", As: "u"})), 5}, {"SELECT * FROM t ON a", 0, parts(from(api.Source{Name: "t"})), 4}, {"SELECT * FROM t SET a", 0, parts(from(api.Source{Name: "t"})), 4}, {"SELECT a SELECT", -1, sel(a), 2},
		{"SELECT a ORDER", 0, api.Select{}, -3}, {"SELECT a ORDER b", 0, api.Select{}, -3}, {"SELECT a FROM t LEFT u", 0, api.Select{}, -5}, {"SELECT a ,", 0, api.Select{}, -3}, {"VALUES ( a ) ,", 0, api.Select{}, -5}, {"VALUES ( a , b ) , ( c ) d", 0, api.Select{}, -9}, {"SELECT a UNION b", 0, api.Select{}, -3}, {"SELECT a NOT b", 0, api.Select{}, -3}, {"SELECT a AS", 0, api.Select{}, -3}, {"SELECT a GROUP BY b HAVING", 0, api.Select{}, -6}, {"a SELECT", 0, api.Select{}, 0}, {"SELECT", 1, api.Select{}, -1}, {"SELECT", 9, api.Select{}, -1}, {"( SELECT a )", 0, api.Select{}, 0},
	} {
		l := tokens(t, x.sql)
		s, at, params, no := expr.TakeSelect(l, x.at, 0)
		if want := x.behind > 0; (no == api.OK) != want || at != max(x.behind, -x.behind) || params != 0 || !expr.SameSelect(s, x.want) || no != api.OK && no != api.ErrSyntax {
			t.Errorf("%q from %d: %+v, %d, %d, %v", x.sql, x.at, s, at, params, no)
		}
	}
}

func TestP162Params(t *testing.T) {
	for _, x := range []struct {
		sql      string
		params   int
		want     api.Expr
		greatest int
	}{
		{"a", 0, a, 0}, {"a", 7, a, 7}, {"a", 99, a, 99}, {"a", -3, a, -3}, {"?", 0, param(1), 1}, {"?", 5, param(6), 6}, {"?", 15, param(16), 16}, {"?2", 5, param(2), 5}, {"?9", 5, param(9), 9}, {"?9", 99, param(9), 99}, {"?9", -4, param(9), 9},
		{"f ( ?2 , ? , ?9 , ? )", 5, call("f", 0, param(2), param(6), param(9), param(10)), 10}, {"f ( ? , ?1 )", 3, call("f", 0, param(4), param(1)), 4}, {"? ?9", 0, param(1), 1}, {"( SELECT ? )", 3, scalar(sel(param(4))), 4},
	} {
		l := tokens(t, x.sql)
		if e, _, greatest, no := expr.Take(l, 0, x.params); no != api.OK || greatest != x.greatest || !expr.Same(e, x.want) {
			t.Errorf("%q with %d: %+v, %d, %v", x.sql, x.params, e, greatest, no)
		}
		l = append(tokens(t, "SELECT"), l...)
		if s, _, greatest, no := expr.TakeSelect(l, 0, x.params); no != api.OK || greatest != x.greatest || !expr.SameSelect(s, sel(x.want)) {
			t.Errorf("SELECT %q with %d: %+v, %d, %v", x.sql, x.params, s, greatest, no)
		}
	}
	for _, params := range []int{16, 17, math.MaxInt, -1, -7, math.MinInt} {
		if e, at, greatest, no := expr.Take(tokens(t, "a + ?"), 0, params); no != api.ErrSyntax || at != 2 || greatest != 0 || !expr.Same(e, api.Expr{}) {
			t.Error(params, e, at, greatest, no)
		}
	}
}

// TestP162TokensThatAreNone: no token that may not be stands in a text.
func TestP162TokensThatAreNone(t *testing.T) {
	for _, k := range []api.Token{
		{}, {Kind: 7, Text: "a"}, {Kind: -1, Text: "a"}, {Kind: api.TokWord}, {Kind: api.TokWord, Text: "a b"}, {Kind: api.TokWord, Text: "1"}, {Kind: api.TokWord, Text: "("}, {Kind: api.TokWord, Text: "é"},
		{Kind: api.TokInt}, {Kind: api.TokInt, Text: "-1"}, {Kind: api.TokInt, Text: "+1"}, {Kind: api.TokInt, Text: "1a"}, {Kind: api.TokInt, Text: "1_0"}, {Kind: api.TokInt, Text: "0x1"}, {Kind: api.TokInt, Text: " 1"},
		{Kind: api.TokParam, Text: "-1"}, {Kind: api.TokParam, Text: "+1"}, {Kind: api.TokParam, Text: "a"}, {Kind: api.TokParam, Text: "0"},
		{Kind: api.TokSign, Text: "NULL"}, {Kind: api.TokSign, Text: "a"}, {Kind: api.TokSign}, {Kind: api.TokSign, Text: "!"}, {Kind: api.TokText, Text: string(make([]byte, api.MaxValue+1))}, {Kind: api.TokBlob, Text: string(make([]byte, api.MaxValue+1))},
	} {
		if e, at, params, no := expr.Take([]api.Token{k, k}, 0, 0); no != api.ErrSyntax || at != 0 || params != 0 || !expr.Same(e, api.Expr{}) {
			t.Errorf("%+v: %+v %d %d %v", k, e, at, params, no)
		}
		l := append(tokens(t, "a"), k)
		if e, at, _, no := expr.Take(l, 0, 0); no != api.OK || at != 1 || !expr.Same(e, a) {
			t.Errorf("a %+v: %+v %d %v", k, e, at, no)
		}
		l = append(tokens(t, "SELECT a AS"), k)
		if s, at, _, no := expr.TakeSelect(l, 0, 0); no != api.ErrSyntax || at != 3 || !expr.SameSelect(s, api.Select{}) {
			t.Errorf("SELECT a AS %+v: %+v %d %v", k, s, at, no)
		}
	}
	for _, sign := range []string{"OR", "AND", "IS", "IN", "AS", "BY", "ON"} {
		l := []api.Token{{Kind: api.TokWord, Text: "a"}, {Kind: api.TokSign, Text: sign}, {Kind: api.TokWord, Text: "a"}}
		if _, at, _, no := expr.Take(l, 0, 0); no != api.OK || at != 1 {
			t.Error(sign, at, no)
		}
	}
	for _, kind := range []api.TokKind{api.TokText, api.TokBlob} {
		l := []api.Token{{Kind: kind, Text: "NULL"}, {Kind: kind, Text: "("}, {Kind: api.TokSign, Text: ")"}}
		want := map[api.TokKind]api.Expr{api.TokText: text("NULL"), api.TokBlob: blob("NULL")}[kind]
		if e, at, _, no := expr.Take(l, 0, 0); no != api.OK || at != 1 || !expr.Same(e, want) {
			t.Error(kind, e, at, no)
		}
	}
}

// TestP162AnyNesting: the depth is not asked, nor how many tokens there are.
func TestP162AnyNesting(t *testing.T) {
	const n = 1 << 14
	for _, x := range []struct {
		ahead, behind string
		depth         int
	}{{"(", ")", 1}, {"-", "", n + 1}, {"NOT", "", n + 1}, {"f (", ")", n + 1}, {"( SELECT", ")", 2*n + 1}, {"CASE", "WHEN 1 THEN 2 END", n + 1}, {"", "+ 1", n + 1}, {"", "COLLATE binary", n + 1}} {
		l := slices.Concat(slices.Repeat(tokens(t, x.ahead), n), tokens(t, "?"), slices.Repeat(tokens(t, x.behind), n))
		e, at, params, no := expr.Take(l, 0, 0)
		if at != len(l) || params != 1 || no != api.OK || expr.Depth(e) != x.depth || expr.Params(e) != 1 || !expr.Same(e, e) {
			t.Error(x, at, params, no, expr.Depth(e))
		}
		if no := expr.Check(e); x.depth > 1 && no != api.ErrDeep {
			t.Error(x, no)
		}
		if s, no := expr.Print(e); x.depth > 1 && (s != "" || no != api.ErrDeep) {
			t.Error(x, no)
		}
		if at := len(l) - len(tokens(t, x.behind))*n; x.behind == ")" {
			if _, place, _, no := expr.Take(l[:len(l)-1], 0, 0); place != len(l)-1 || no != api.ErrSyntax {
				t.Error(x, at, place, no)
			}
		}
	}
}

func TestP162HandedInStays(t *testing.T) {
	l := tokens(t, "WITH w ( a ) AS ( VALUES ( 'x' , ? ) ) SELECT f ( a , 1 ) , t . * FROM w LEFT JOIN t ON a IN ( 1 , 2 ) ORDER BY a")
	spare := append(slices.Clone(l), tokens(t, "x y z")...)[:len(l)]
	s, at, _, no := expr.TakeSelect(spare, 0, 0)
	if no != api.OK || at != len(l) || !slices.Equal(spare, l) || spare[:len(l)+1][len(l)].Text != "x" {
		t.Error(at, no)
	}
	again, _, _, _ := expr.TakeSelect(spare, 0, 0)
	again.Parts[0].Items[0].Expr[0].Args[0].Name = "changed"
	again.With[0].Cols[0] = "changed"
	if text, no := expr.PrintSelect(s); no != api.OK || text != "WITH w(a) AS (VALUES ('x', ?1)) SELECT f(a, 1), t.* FROM w LEFT JOIN t ON a IN (1, 2) ORDER BY a" {
		t.Error(text, no)
	}
}

// TestP162NothingShared: what is laid behind a list of an answer is seen in no other list of it.
func TestP162NothingShared(t *testing.T) {
	l := tokens(t, "a + b + c IN ( 1 , 2 , 3 , f ( 1 , 2 , 3 ) ) AND CASE a WHEN 1 THEN 2 WHEN 3 THEN 4 ELSE 5 END BETWEEN 1 AND ( VALUES ( 1 , 2 , 3 ) , ( 4 , 5 , 6 ) )")
	e, _, _, no := expr.Take(l, 0, 0)
	want, f := expr.Print(e)
	if no != api.OK || f != api.OK {
		t.Fatal(no, f)
	}
	var spoil func(e *api.Expr)
	spoil = func(e *api.Expr) {
		_ = append(e.Args, col("spoilt"), col("spoilt"), col("spoilt"))
		for i := range e.Args {
			spoil(&e.Args[i])
		}
		for _, s := range e.Sub {
			_ = append(s.Parts, api.Part{}, api.Part{})
			for _, p := range s.Parts {
				_ = append(p.Values, nil, nil)
				for _, row := range p.Values {
					_ = append(row, col("spoilt"), col("spoilt"))
				}
			}
		}
	}
	spoil(&e)
	if s, _ := expr.Print(e); s != want {
		t.Error(s, want)
	}
}
