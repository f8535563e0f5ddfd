package expr_test

import (
	"math"
	"strings"
	"testing"

	"bureau/api"
	"bureau/expr"
)

var a, b, c, d = col("a"), col("b"), col("c"), col("d")

func TestP161Levels(t *testing.T) {
	for _, x := range []struct {
		sql  string
		want api.Expr
	}{
		{"a or b or c", op(api.OpOr, op(api.OpOr, a, b), c)},
		{"a or b and c or d", op(api.OpOr, op(api.OpOr, a, op(api.OpAnd, b, c)), d)},
		{"a and b and c", op(api.OpAnd, op(api.OpAnd, a, b), c)},
		{"not a and not b", op(api.OpAnd, op(api.OpNot, a), op(api.OpNot, b))},
		{"not a = b", op(api.OpNot, op(api.OpEq, a, b))},
		{"not not a", op(api.OpNot, op(api.OpNot, a))},
		{"a = b == c", op(api.OpEq, op(api.OpEq, a, b), c)},
		{"a <> b != c", op(api.OpNe, op(api.OpNe, a, b), c)},
		{"a is b is not c", op(api.OpIsNot, op(api.OpIs, a, b), c)},
		{"a like b glob c", op(api.OpGlob, op(api.OpLike, a, b), c)},
		{"a not like b not glob c", not(op(api.OpGlob, not(op(api.OpLike, a, b)), c))},
		{"a between b and c and d", op(api.OpAnd, op(api.OpBetween, a, b, c), d)},
		{"a not between b and c = d", op(api.OpEq, not(op(api.OpBetween, a, b, c)), d)},
		{"a between b < c and c + d", op(api.OpBetween, a, op(api.OpLt, b, c), op(api.OpAdd, c, d))},
		{"a in ()", op(api.OpIn, a)},
		{"a in (b) in (c, d or a)", op(api.OpIn, op(api.OpIn, a, b), c, op(api.OpOr, d, a))},
		{"a not in (b)", not(op(api.OpIn, a, b))},
		{"a in (select b)", in(sel(b), a)},
		{"a not in (values (b))", not(in(parts(values(one(b))), a))},
		{"a in ((select b))", op(api.OpIn, a, scalar(sel(b)))},
		{"a < b <= c > d >= a", op(api.OpGe, op(api.OpGt, op(api.OpLe, op(api.OpLt, a, b), c), d), a)},
		{"a = b < c", op(api.OpEq, a, op(api.OpLt, b, c))},
		{"a < b + c - d", op(api.OpLt, a, op(api.OpSub, op(api.OpAdd, b, c), d))},
		{"a + b * c / d % a", op(api.OpAdd, a, op(api.OpRem, op(api.OpDiv, op(api.OpMul, b, c), d), a))},
		{"a * b || c || d", op(api.OpMul, a, op(api.OpConcat, op(api.OpConcat, b, c), d))},
		{"- a || + b", op(api.OpConcat, op(api.OpNeg, a), op(api.OpPlus, b))},
		{"- + - a", op(api.OpNeg, op(api.OpPlus, op(api.OpNeg, a)))},
		{"a - - b", op(api.OpSub, a, op(api.OpNeg, b))},
		{"- a collate nocase", op(api.OpNeg, collate(a, "nocase"))},
		{"a collate BINARY collate RTrim", collate(collate(a, "BINARY"), "RTrim")},
		{"a < b collate nocase", op(api.OpLt, a, collate(b, "nocase"))},
		{"not exists (select a) or b", op(api.OpOr, not(exists(sel(a))), b)},
		{"not exists (select a) and b", op(api.OpAnd, not(exists(sel(a))), b)},
		{"not not exists (select a)", op(api.OpNot, not(exists(sel(a))))},
		{"not (exists (select a))", op(api.OpNot, exists(sel(a)))},
		{"not (exists (select a)) = b", op(api.OpNot, op(api.OpEq, exists(sel(a)), b))},
		{"exists (select a) = b", op(api.OpEq, exists(sel(a)), b)},
		{"a is not exists (select a)", op(api.OpIsNot, a, exists(sel(a)))},
		{"(a or b) and c", op(api.OpAnd, op(api.OpOr, a, b), c)},
	} {
		reads(t, x.sql, x.want)
		reads(t, "(("+x.sql+"))", x.want)
	}
}

func TestP161Ones(t *testing.T) {
	for _, x := range []struct {
		sql  string
		want api.Expr
	}{
		{"NULL", null()}, {"null", null()}, {"0", num(0)}, {"007", num(7)}, {"9223372036854775807", num(math.MaxInt64)},
		{strings.Repeat("0", 1950) + "12", num(12)}, {"'it''s'", text("it's")}, {"''", text("")}, {"x'00fF'", blob("\x00\xff")}, {"x''", blob("")},
		{"'" + strings.Repeat("a", api.MaxValue) + "'", text(strings.Repeat("a", api.MaxValue))},
		{"x'" + strings.Repeat("61", api.MaxValue) + "'", blob(strings.Repeat("a", api.MaxValue))},
		{"a", a}, {"A", col("A")}, {"t.a", of("t", "a")}, {"T . A", of("T", "A")}, {"nocase", col("nocase")}, {"integer", col("integer")}, {"x", col("x")},
		{strings.Repeat("n", api.MaxName), col(strings.Repeat("n", api.MaxName))},
		{"?", param(1)}, {"?3", param(3)}, {"?16", param(16)}, {"?003", param(3)},
		{"(((a)))", a}, {"(select a)", scalar(sel(a))}, {"(values (a, b))", scalar(parts(values([]api.Expr{a, b})))}, {"((select a))", scalar(sel(a))},
		{"exists (select a)", exists(sel(a))},
		{"case when a then b end", cases(0, a, b)}, {"case a when b then c end", cases(1, a, b, c)},
		{"case when a then b else c end", cases(2, a, b, c)}, {"case a when b then c else d end", cases(3, a, b, c, d)},
		{"case when a then b when c then d end", cases(0, a, b, c, d)}, {"case case when a then b end when c then d end", cases(1, cases(0, a, b), c, d)},
		{"cast(a as integer)", cast(a, "integer")}, {"cast(a or b as Int)", cast(op(api.OpOr, a, b), "Int")}, {"cast(a as TEXT)", cast(a, "TEXT")}, {"cast(a as bLOB)", cast(a, "bLOB")},
		{"f()", call("f", 0)}, {"f(a)", call("f", 0, a)}, {"F (a, b or c)", call("F", 0, a, op(api.OpOr, b, c))}, {"f(distinct a)", call("f", 1, a)}, {"f(*)", call("f", 2)},
		{"replace(a, b, c)", call("replace", 0, a, b, c)}, {"REPLACE()", call("REPLACE", 0)}, {"Replace(*)", call("Replace", 2)}, {"replace(distinct a)", call("replace", 1, a)},
		{"f((a))", call("f", 0, a)}, {"f((select a))", call("f", 0, scalar(sel(a)))},
	} {
		reads(t, x.sql, x.want)
		reads(t, "\n-- a remark\n"+x.sql+"--", x.want)
	}
}

func TestP161Params(t *testing.T) {
	for sql, want := range map[string]api.Expr{
		"f(?, ?, ?)":                           call("f", 0, param(1), param(2), param(3)),
		"f(?5, ?, ?2, ?)":                      call("f", 0, param(5), param(6), param(2), param(7)),
		"f(?2, ?1, ?)":                         call("f", 0, param(2), param(1), param(3)),
		"? + (select ? where ?4) + ?":          op(api.OpAdd, op(api.OpAdd, param(1), scalar(parts(api.Part{Items: []api.Item{item(param(2))}, Where: one(param(4))}))), param(5)),
		"case ? when ?7 then ? end":            cases(1, param(1), param(7), param(8)),
		"?15 + ?":                              op(api.OpAdd, param(15), param(16)),
		"?16 + ?1":                             op(api.OpAdd, param(16), param(1)),
		"? between ? and ?":                    op(api.OpBetween, param(1), param(2), param(3)),
		"? in (?, ?) and ? not in (values(?))": op(api.OpAnd, op(api.OpIn, param(1), param(2), param(3)), not(in(parts(values(one(param(5)))), param(4)))),
	} {
		reads(t, sql, want)
	}
	readsSelect(t, "with w as (select ?2) select ?, * from w on_ join (select ?) on ? where ? group by ? having ? order by ? limit ? offset ?", func() api.Select {
		p := part(param(3))
		p.Items = append(p.Items, api.Item{Star: true})
		p.From = []api.Source{{Name: "w", As: "on_"}, {Sub: subs(sel(param(4))), On: one(param(5))}}
		p.Where, p.Group, p.Having = one(param(6)), one(param(7)), one(param(8))
		return api.Select{With: []api.Cte{{Name: "w", Body: subs(sel(param(2)))}}, Parts: []api.Part{p}, Order: []api.Sort{{Expr: param(9)}}, Limit: one(param(10)), Offset: one(param(11))}
	}())
}

func TestP161Queries(t *testing.T) {
	star := api.Item{Star: true}
	with := func(p api.Part, change func(*api.Part)) api.Select {
		change(&p)
		return parts(p)
	}
	tail := func(change func(*api.Select)) api.Select {
		s := sel(a)
		change(&s)
		return s
	}
	for _, x := range []struct {
		sql  string
		want api.Select
	}{
		{"select a", sel(a)}, {"select all a, b", sel(a, b)},
		{"select distinct a", with(part(a), func(p *api.Part) { p.Distinct = true })},
		{"select *, t.*, a", parts(api.Part{Items: []api.Item{star, {Star: true, Table: "t"}, item(a)}})},
		{"select a as b, c d, t.a b", parts(api.Part{Items: []api.Item{{Expr: one(a), As: "b"}, {Expr: one(c), As: "d"}, {Expr: one(of("t", "a")), As: "b"}}})},
		{"select a + b c", parts(api.Part{Items: []api.Item{{Expr: one(op(api.OpAdd, a, b)), As: "c"}}})},
		{"select * from t", parts(from(api.Source{Name: "t"}))},
		{"select * from t as u", parts(from(api.Source{Name: "t", As: "u"}))}, {"select * from t u", parts(from(api.Source{Name: "t", As: "u"}))},
		{"select * from (select a) as u", parts(from(api.Source{Sub: subs(sel(a)), As: "u"}))}, {"select * from (values (a)) u", parts(from(api.Source{Sub: subs(parts(values(one(a)))), As: "u"}))},
		{"select * from (select a)", parts(from(api.Source{Sub: subs(sel(a))}))},
		{"select * from t, u join v inner join w cross join x", parts(from(api.Source{Name: "t"}, api.Source{Name: "u"}, api.Source{Name: "v"}, api.Source{Name: "w"}, api.Source{Name: "x"}))},
		{"select * from t left join u left outer join v", parts(from(api.Source{Name: "t"}, api.Source{Name: "u", Join: api.JoinLeft}, api.Source{Name: "v", Join: api.JoinLeft}))},
		{"select * from t, u on a join v on b left join w x on c", parts(from(api.Source{Name: "t"}, api.Source{Name: "u", On: one(a)}, api.Source{Name: "v", On: one(b)}, api.Source{Name: "w", As: "x", Join: api.JoinLeft, On: one(c)}))},
		{"select a where b", with(part(a), func(p *api.Part) { p.Where = one(b) })},
		{"select a group by b, c", with(part(a), func(p *api.Part) { p.Group = []api.Expr{b, c} })},
		{"select a group by b having c", with(part(a), func(p *api.Part) { p.Group, p.Having = one(b), one(c) })},
		{"values (a)", parts(values(one(a)))}, {"values (a, b), (c, d)", parts(values([]api.Expr{a, b}, []api.Expr{c, d}))},
		{"select a union select b", parts(part(a), comp(api.CompUnion, part(b)))}, {"select a union all values (b)", parts(part(a), comp(api.CompAll, values(one(b))))},
		{"values (a) intersect select b except select all c", parts(values(one(a)), comp(api.CompIntersect, part(b)), comp(api.CompExcept, part(c)))},
		{"select a union all select distinct b", parts(part(a), comp(api.CompAll, with(part(b), func(p *api.Part) { p.Distinct = true }).Parts[0]))},
		{"select a order by b, c asc, d desc", tail(func(s *api.Select) { s.Order = []api.Sort{{Expr: b}, {Expr: c}, {Expr: d, Desc: true}} })},
		{"select a limit b", tail(func(s *api.Select) { s.Limit = one(b) })}, {"select a limit b offset c", tail(func(s *api.Select) { s.Limit, s.Offset = one(b), one(c) })},
		{"with t as (select b) select a", tail(func(s *api.Select) { s.With = []api.Cte{{Name: "t", Body: subs(sel(b))}} })},
		{"with recursive t as (select b), u(c, d) as (values (c, d)) select a", tail(func(s *api.Select) {
			s.With = []api.Cte{{Name: "t", Body: subs(sel(b))}, {Name: "u", Cols: []string{"c", "d"}, Body: subs(parts(values([]api.Expr{c, d})))}}
		})},
		{"select a from t left join u", with(part(a), func(p *api.Part) { p.From = []api.Source{{Name: "t"}, {Name: "u", Join: api.JoinLeft}} })},
	} {
		readsSelect(t, x.sql, x.want)
		readsSelect(t, "\t"+x.sql+"--;", x.want)
	}
}

func TestP161ErrSyntax(t *testing.T) {
	long := strings.Repeat("9", 30)
	for _, x := range []struct {
		sql   string
		place int
	}{
		{"", 0}, {" ", 1}, {"--", 2}, {";", 0}, {"a;", 1}, {"a +", 3}, {"a + ", 4}, {"a b", 2}, {"1 in", 4}, {"1 in a", 5}, {"1 in (", 6}, {"1 in (a,)", 8}, {"1 in (a b)", 8}, {"?17", 0},
		{"a not b", 6}, {"a not", 5}, {"a not = b", 6}, {"a not exists (select a)", 6}, {"a not null", 6}, {"not", 3}, {"a = not b", 4}, {"- not a", 2}, {"a is not not b", 9},
		{"not exists (select 1) = 1", 22}, {"not exists (select 1) + 1", 22}, {"not exists (select 1) collate binary", 22}, {"not exists (select 1) in ()", 22}, {"not exists 1", 11}, {"exists", 6}, {"exists (1)", 8}, {"exists (with", 8},
		{"a between 1", 11}, {"a between 1 or", 12}, {"a between 1 and", 15}, {"a between not", 10},
		{"a collate", 9}, {"a collate b", 10}, {"a collate 'binary'", 10}, {"a collate integer", 10}, {"a collate binaryy", 10},
		{"9223372036854775808", 0}, {"-9223372036854775808", 1}, {long, 0}, {"'" + strings.Repeat("a", api.MaxValue+1) + "'", 0}, {"1 + x'" + strings.Repeat("61", api.MaxValue+1) + "'", 4},
		{"?0", 0}, {"?00", 0}, {"?" + long, 0}, {"?16 + ?", 6}, {"f(?16, ?1, ?)", 11}, {"(select ?16) + ?", 15},
		{"t.", 2}, {"t.1", 2}, {"t.*", 2}, {"t.a.b", 3}, {"t.select", 2}, {"t.replace", 2}, {"select", 0}, {"from", 0}, {"replace", 7}, {"replace + 1", 8}, {"replace.a", 7},
		{strings.Repeat("n", api.MaxName+1), 0}, {"t." + strings.Repeat("n", api.MaxName+1), 2},
		{"()", 1}, {"(a", 2}, {"(a, b)", 2}, {"(with w as (select 1) select 2)", 1}, {"(select)", 7}, {"(select 1", 9}, {"(a))", 3},
		{"case", 4}, {"case end", 5}, {"case a end", 7}, {"case when a end", 12}, {"case when a then b", 18}, {"case when a then b else c when", 26}, {"case a when b then c else d", 27}, {"case when then", 10}, {"case else", 5}, {"case a else", 7},
		{"cast", 4}, {"cast a", 5}, {"cast(a)", 6}, {"cast(a as)", 9}, {"cast(a as x)", 10}, {"cast(a as int", 13}, {"cast(a as 'int')", 10}, {"cast(a as int int)", 14}, {"cast(a int)", 7}, {"cast(a as nocase)", 10},
		{"f(", 2}, {"f(a", 3}, {"f(a,", 4}, {"f(a,)", 4}, {"f(,)", 2}, {"f(distinct)", 10}, {"f(distinct a, b)", 12}, {"f(distinct *)", 11}, {"f(*, a)", 3}, {"f(a, *)", 5}, {"f(all a)", 2}, {"t.f(a)", 3}, {"f()()", 3}, {"1(a)", 1}, {"f(a, distinct b)", 5},
		{"a or", 4}, {"or a", 0}, {"a or or b", 5}, {"a < > b", 4}, {"a = = b", 4}, {"* a", 0}, {"a || || b", 5}, {"a -", 3}, {"a as b", 2}, {"a desc", 2}, {"1 2", 2}, {"'a' 'b'", 4}, {"? ?", 2}, {"a, b", 1},
	} {
		refuses(t, x.sql, x.place, api.ErrSyntax)
	}
	for _, x := range []struct {
		sql   string
		place int
	}{
		{"", 0}, {"a", 0}, {"(select a)", 0}, {"select", 6}, {"select from t", 7}, {"select a,", 9}, {"select a, from t", 10}, {"select distinct", 15}, {"select distinct all a", 16}, {"select all distinct a", 11}, {"select distinct distinct a", 16},
		{"select * a", 9}, {"select * as a", 9}, {"select t.* a", 11}, {"select t.* + 1", 11}, {"select t.", 9}, {"select t.1", 9}, {"select t.* from", 15}, {"select 1.*", 8}, {"select t.a.*", 10}, {"select select.*", 7}, {"select replace.*", 14},
		{"select a as", 11}, {"select a as from t", 12}, {"select a as 'b'", 12}, {"select a b c", 11}, {"select a 'b'", 9}, {"select a as b as c", 14},
		{"select a from", 13}, {"select a from 1", 14}, {"select a from select", 14}, {"select a from t t t", 18}, {"select a from t as", 18}, {"select a from t as 1", 19}, {"select a from (t)", 15}, {"select a from (select b", 23}, {"select a from ((select b))", 15}, {"select a from ()", 15}, {"select a from (with", 15}, {"select a from t.u", 15}, {"select a from replace", 14},
		{"select a from t on b", 16}, {"select a from t u on b", 18}, {"select a from t,", 16}, {"select a from t join", 20}, {"select a from t inner u", 22}, {"select a from t inner left join u", 22}, {"select a from t cross u", 22}, {"select a from t left u", 21}, {"select a from t left outer u", 27}, {"select a from t outer join u", 16}, {"select a from t left inner join u", 21}, {"select a from t join u on", 25}, {"select a from t join u on a on b", 28}, {"select a from t join u on a v", 28}, {"select a from t using", 16},
		{"select a where", 14}, {"select a where b where c", 17}, {"select a where b from t", 17}, {"select a from t where b group c", 30}, {"select a group by", 17}, {"select a group by b,", 20}, {"select 1 having 2", 9}, {"select a group by b having", 26}, {"select a group by b where c", 20}, {"select a having b group by c", 9}, {"select a group by b having c having d", 29},
		{"values", 6}, {"values a", 7}, {"values ()", 8}, {"values (1", 9}, {"values (1,)", 10}, {"values (1),", 11}, {"values (1,2),(3)", 15}, {"values (1),(2,3)", 13}, {"values (1,2),(3,4,5)", 17}, {"values (1,2),(3,4),(5)", 21}, {"values (1) (2)", 11}, {"values (1), 2", 12}, {"values (1) from t", 11}, {"values (1) a", 11}, {"values (1) where a", 11}, {"values (1,2),()", 14}, {"values distinct (1)", 7},
		{"select a union", 14}, {"select a union all", 18}, {"select a union all all select b", 19}, {"select a union distinct select b", 15}, {"select a intersect all select b", 19}, {"select a except all select b", 16}, {"select a union (select b)", 15}, {"select a order by b union select c", 20}, {"select a limit 1 union select c", 17}, {"select a union with", 15},
		{"select a order b", 15}, {"select a order by", 17}, {"select a order by b asc desc", 24}, {"select a order by asc", 18}, {"select a order by b c", 20}, {"select a order by b,", 20}, {"select a limit 1 order by b", 17}, {"select a order by a order by b", 20},
		{"select a limit", 14}, {"select a limit 1, 2", 16}, {"select a offset 1", 9}, {"select a limit 1 offset", 23}, {"select a limit 1 offset 2 offset 3", 26}, {"select a limit 1 limit 2", 17}, {"select a limit all", 15},
		{"with", 4}, {"with recursive", 14}, {"with w", 6}, {"with w as", 9}, {"with w as select", 10}, {"with w as (select 1)", 20}, {"with w as (select 1),", 21}, {"with w as (select 1) with", 21}, {"with w as (with u as (select 1) select 2) select 3", 11}, {"with w() as", 7}, {"with w(a,) as", 9}, {"with w(a.b) as", 8}, {"with w(a b) as", 9}, {"with w(1) as", 7}, {"with recursive recursive as", 15}, {"with w (select 1)", 8}, {"with w as (select 1) u as", 21}, {"with w as (1)", 11}, {"with replace as", 5}, {"with w as (select 1) 2", 21},
		{"select a;", 8}, {"select a)", 8}, {"select a from t) ", 15}, {"select a b, c d e", 16}, {"select ?16, ?", 12}, {"with w as (select ?16) select ?", 30}, {"select a like b like", 20},
	} {
		refusesSelect(t, x.sql, x.place, api.ErrSyntax)
	}
}

func TestP161EachKeywordIsNoName(t *testing.T) {
	for _, k := range strings.Fields(keywords) {
		for _, w := range []string{k, strings.ToLower(k)} {
			refuses(t, "t."+w, 2, api.ErrSyntax)
			refusesSelect(t, "select a as "+w, 12, api.ErrSyntax)
			refusesSelect(t, "select a from "+w, 14, api.ErrSyntax)
			refusesSelect(t, "select a from t as "+w, 19, api.ErrSyntax)
			refusesSelect(t, "with w("+w, 7, api.ErrSyntax)
			if k != "RECURSIVE" {
				refusesSelect(t, "with "+w, 5, api.ErrSyntax)
			}
			switch k {
			case "NULL":
				reads(t, w, null())
			case "NOT", "CASE", "CAST", "EXISTS", "REPLACE":
				refuses(t, w, len(w), api.ErrSyntax)
			default:
				refuses(t, w, 0, api.ErrSyntax)
				refuses(t, w+"(", 0, api.ErrSyntax)
			}
		}
	}
}

func TestP161ErrorsInOrder(t *testing.T) {
	long := many("#", api.MaxSql/2) + " "
	refuses(t, long, 0, api.ErrLong)
	refusesSelect(t, long, 0, api.ErrLong)
	refuses(t, long[1:], 1, api.ErrToken)
	refusesSelect(t, long[1:], 1, api.ErrToken)
	refuses(t, "a a a #", 6, api.ErrToken)
	refusesSelect(t, "select select 'a", 14, api.ErrToken)
	refuses(t, many("-", 12)+"a 1", 26, api.ErrSyntax)
	refusesSelect(t, "select "+many("-", 12)+"a 1", 33, api.ErrSyntax)
	spaces := strings.Repeat(" ", api.MaxSql)
	reads(t, "a"+spaces[1:], a)
	refuses(t, "a"+spaces, 0, api.ErrLong)
	readsSelect(t, "select a"+spaces[8:], sel(a))
	refusesSelect(t, "select a"+spaces[7:], 0, api.ErrLong)
}

// TestP161Depth counts each kind of part in one another.
func TestP161Depth(t *testing.T) {
	for _, x := range []struct {
		ahead, behind string
		step, within  int // what a round adds, and what stands within the innermost one
	}{
		{"-", "", 1, 1}, {"+", "", 1, 1}, {"not", "", 1, 1}, {"a + (", ")", 1, 1}, {"", "or a", 1, 1}, {"f(a,", ")", 1, 1}, {"cast(", "as int)", 1, 1}, {"case when a then", "end", 1, 1}, {"case", "when a then b end", 1, 1}, {"case when a then b else", "end", 1, 1},
		{"", "collate binary", 1, 1}, {"a in (", ")", 1, 1}, {"a between b and (", ")", 1, 1}, {"(select", ")", 2, 1}, {"exists (select", ")", 2, 1}, {"not exists (values (", "))", 2, 1}, {"a in (select", ")", 2, 1}, {"(select a from t join u on", ")", 2, 1},
		{"(select a where", ")", 2, 1}, {"(select a group by", ")", 2, 1}, {"(select a group by b having", ")", 2, 1}, {"(select a order by", ")", 2, 1}, {"(select a limit", ")", 2, 1}, {"(select a limit b offset", ")", 2, 1}, {"(select a from t union select", ")", 2, 1}, {"(select a from (select", "))", 3, 1},
	} {
		n := (api.MaxDepth - x.within) / x.step
		sql := strings.TrimSpace(many(x.ahead, n) + "a " + many(x.behind, n))
		if e, _, no := expr.Parse(sql); no != api.OK || expr.Depth(e) != n*x.step+x.within {
			t.Error(sql, no, expr.Depth(e))
		}
		refuses(t, many(x.ahead, n+1)+"a "+many(x.behind, n+1), 0, api.ErrDeep)
		refusesSelect(t, "select "+many(x.ahead, n+1)+"a "+many(x.behind, n+1), 0, api.ErrDeep)
	}
	reads(t, many("(", 450)+"a"+many(")", 450), a)
	refusesSelect(t, "select "+many("-", api.MaxDepth-1)+"a", 0, api.ErrDeep)
	refusesSelect(t, "with w as (select "+many("-", api.MaxDepth-2)+"a) select 1", 0, api.ErrDeep)
	refusesSelect(t, many("select a from (", api.MaxDepth-1)+"select b"+many(")", api.MaxDepth-1), 0, api.ErrDeep)
	if _, _, no := expr.ParseSelect(many("select a from (", api.MaxDepth-2) + "select b" + many(")", api.MaxDepth-2)); no != api.OK {
		t.Error(no)
	}
}

const keywords = `ABORT ADD ALL ALTER AND AS ASC BEGIN BETWEEN BY CASE CAST CHECK COLLATE COLUMN COMMIT CREATE CROSS DEFAULT DEFERRED DELETE DESC DISTINCT DROP ELSE END EXCEPT EXCLUSIVE EXISTS FROM GLOB GROUP HAVING IF IGNORE IMMEDIATE IN INDEX INNER INSERT INTERSECT INTO IS JOIN KEY LEFT LIKE LIMIT NOT NULL OFFSET ON OR ORDER OUTER PRIMARY RECURSIVE RELEASE RENAME REPLACE ROLLBACK SAVEPOINT SELECT SET TABLE THEN TO TRANSACTION UNION UNIQUE UPDATE USING VALUES VIEW WHEN WHERE WITH`
