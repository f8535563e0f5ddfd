package expr_test

import (
	"strings"
	"testing"

	"bureau/api"
	"bureau/expr"
)

func TestP163Print(t *testing.T) {
	q := sel(a)
	for _, x := range []struct {
		tree api.Expr
		want string
	}{
		{null(), "NULL"}, {num(7), "7"}, {text("it's"), "'it''s'"}, {blob("\x0a\xff"), "x'0aff'"}, {a, "a"}, {of("T", "a"), "T.a"}, {param(3), "?3"},
		{op(api.OpNeg, num(1)), "-1"}, {op(api.OpPlus, a), "+a"}, {op(api.OpNeg, op(api.OpNeg, a)), "-(-a)"}, {op(api.OpPlus, op(api.OpNeg, a)), "+(-a)"}, {op(api.OpNot, a), "NOT a"}, {op(api.OpNot, op(api.OpNot, a)), "NOT (NOT a)"}, {op(api.OpNeg, op(api.OpNot, a)), "-(NOT a)"}, {op(api.OpNeg, cases(0, a, b)), "-CASE WHEN a THEN b END"},
		{op(api.OpNot, exists(q)), "NOT (EXISTS (SELECT a))"}, {op(api.OpNot, not(exists(q))), "NOT (NOT EXISTS (SELECT a))"}, {op(api.OpEq, exists(q), not(exists(q))), "EXISTS (SELECT a) = (NOT EXISTS (SELECT a))"}, {not(exists(q)), "NOT EXISTS (SELECT a)"}, {op(api.OpNeg, exists(q)), "-EXISTS (SELECT a)"}, {op(api.OpNot, scalar(q)), "NOT (SELECT a)"},
		{op(api.OpLike, a, op(api.OpAdd, b, c)), "a LIKE (b + c)"}, {not(op(api.OpGlob, a, b)), "a NOT GLOB b"}, {op(api.OpIs, a, null()), "a IS NULL"}, {op(api.OpIsNot, op(api.OpIs, a, b), null()), "(a IS b) IS NOT NULL"},
		{op(api.OpBetween, op(api.OpAdd, a, b), op(api.OpNeg, a), op(api.OpAnd, a, b)), "(a + b) BETWEEN (-a) AND (a AND b)"}, {not(op(api.OpBetween, a, b, c)), "a NOT BETWEEN b AND c"},
		{op(api.OpIn, a), "a IN ()"}, {not(op(api.OpIn, op(api.OpNeg, a), op(api.OpNeg, b), not(exists(q)))), "(-a) NOT IN (-b, NOT EXISTS (SELECT a))"}, {in(q, op(api.OpOr, a, b)), "(a OR b) IN (SELECT a)"}, {not(in(q, a)), "a NOT IN (SELECT a)"}, {op(api.OpAnd, in(q, a), a), "(a IN (SELECT a)) AND a"},
		{scalar(q), "(SELECT a)"}, {op(api.OpAdd, scalar(q), cast(a, "Int")), "(SELECT a) + CAST(a AS Int)"}, {cast(op(api.OpAdd, a, b), "TEXT"), "CAST(a + b AS TEXT)"},
		{collate(collate(a, "noCase"), "RTRIM"), "(a COLLATE noCase) COLLATE RTRIM"}, {op(api.OpLt, collate(a, "binary"), b), "(a COLLATE binary) < b"}, {collate(op(api.OpNeg, a), "binary"), "(-a) COLLATE binary"}, {collate(call("f", 0), "binary"), "f() COLLATE binary"},
		{cases(3, op(api.OpAdd, a, b), not(exists(q)), collate(a, "binary"), op(api.OpNeg, a)), "CASE a + b WHEN NOT EXISTS (SELECT a) THEN a COLLATE binary ELSE -a END"}, {cases(0, a, b, c, d), "CASE WHEN a THEN b WHEN c THEN d END"},
		{call("F", 0), "F()"}, {call("f", 0, op(api.OpAdd, a, b), c), "f(a + b, c)"}, {call("f", 1, op(api.OpAdd, a, b)), "f(DISTINCT a + b)"}, {call("f", 2), "f(*)"}, {call("replace", 0, a), "replace(a)"},
	} {
		if s, no := expr.Print(x.tree); s != x.want || no != api.OK {
			t.Errorf("%+v is printed as %q, %v; not %q", x.tree, s, no, x.want)
		}
	}
	for o, sign := range map[api.Op]string{api.OpAdd: "+", api.OpSub: "-", api.OpMul: "*", api.OpDiv: "/", api.OpRem: "%", api.OpConcat: "||", api.OpEq: "=", api.OpNe: "<>", api.OpLt: "<", api.OpLe: "<=", api.OpGt: ">", api.OpGe: ">=", api.OpIs: "IS", api.OpIsNot: "IS NOT", api.OpAnd: "AND", api.OpOr: "OR", api.OpLike: "LIKE", api.OpGlob: "GLOB"} {
		want := "(a " + sign + " b) " + sign + " (c " + sign + " d)"
		if s, no := expr.Print(op(o, op(o, a, b), op(o, c, d))); s != want || no != api.OK {
			t.Errorf("%q, not %q", s, want)
		}
	}
}

func TestP163PrintSelect(t *testing.T) {
	for _, x := range [][2]string{
		{"select all *,t . *,a b,-a as c", "SELECT *, t.*, a AS b, -a AS c"}, {"select distinct a+b", "SELECT DISTINCT a + b"}, {"select a from t,u b left outer join v on a=b cross join (values(1)) inner join (select 1)x on a", "SELECT a FROM t JOIN u AS b LEFT JOIN v ON a = b JOIN (VALUES (1)) JOIN (SELECT 1) AS x ON a"},
		{"select a where a or b group by a or b,c having a or b", "SELECT a WHERE a OR b GROUP BY a OR b, c HAVING a OR b"}, {"select a order by a asc,b desc,c limit 1+1 offset-1", "SELECT a ORDER BY a, b DESC, c LIMIT 1 + 1 OFFSET -1"},
		{"values(1,a or b),(3,4)union values(1,2)union all select 1,2 intersect select all 1,2 except select distinct 1,2", "VALUES (1, a OR b), (3, 4) UNION VALUES (1, 2) UNION ALL SELECT 1, 2 INTERSECT SELECT 1, 2 EXCEPT SELECT DISTINCT 1, 2"},
		{"with recursive t(a,b)as(select 1),u as(values(1))select 1", "WITH t(a, b) AS (SELECT 1), u AS (VALUES (1)) SELECT 1"}, {"select a from (select b) order by 1", "SELECT a FROM (SELECT b) ORDER BY 1"},
	} {
		s, _, no := expr.ParseSelect(x[0])
		if text, f := expr.PrintSelect(s); text != x[1] || no != api.OK || f != api.OK {
			t.Errorf("%q is printed as %q, %v, %v; not %q", x[0], text, no, f, x[1])
		}
	}
}

// TestP163LongText: what is printed may be longer than any statement.
func TestP163LongText(t *testing.T) {
	const n = 5000
	var args, pairs []api.Expr
	var items []api.Item
	var rows [][]api.Expr
	all, sources := []api.Part{part(a)}, []api.Source{{Name: "t"}}
	for range n {
		args = append(args, text("x"))
		pairs = append(pairs, a, b)
		items = append(items, item(a))
		rows = append(rows, one(a))
		all = append(all, comp(api.CompAll, part(a)))
		sources = append(sources, api.Source{Name: "t"})
	}
	for _, x := range []struct {
		tree api.Expr
		want string
	}{
		{call("f", 0, args...), "f(" + strings.Repeat("'x', ", n-1) + "'x')"}, {cases(0, pairs...), "CASE" + strings.Repeat(" WHEN a THEN b", n) + " END"}, {scalar(parts(api.Part{Items: items})), "(SELECT " + strings.Repeat("a, ", n-1) + "a)"},
		{scalar(parts(values(rows...))), "(VALUES " + strings.Repeat("(a), ", n-1) + "(a))"}, {scalar(parts(all...)), "(SELECT a" + strings.Repeat(" UNION ALL SELECT a", n) + ")"}, {scalar(parts(from(sources...))), "(SELECT * FROM t" + strings.Repeat(" JOIN t", n) + ")"},
	} {
		if s, no := expr.Print(x.tree); s != x.want || no != api.OK {
			t.Error(len(s), no, len(x.want))
		}
	}
}
