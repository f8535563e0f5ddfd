package expr_test

import (
	"reflect"
	"strings"
	"testing"

	"bureau/api"
	"bureau/expr"
	"bureau/token"
)

func deep(n int, e api.Expr) api.Expr {
	for range n {
		e = op(api.OpNeg, e)
	}
	return e
}

// checks asks Check, Print, and both again of selects in which the expression stands in each place.
func checks(t *testing.T, e api.Expr, want api.Errno) {
	t.Helper()
	if no := expr.Check(e); no != want {
		t.Errorf("%+v: %v, not %v", e, no, want)
	}
	if s, no := expr.Print(e); no != want || (s == "") != (want != api.OK) {
		t.Errorf("%+v: %q %v, not %v", e, s, no, want)
	}
	if want == api.ErrDeep || expr.Depth(e) > 5 {
		return
	}
	full := sel(a)
	full.Parts[0].From = []api.Source{{Name: "t"}, {Name: "u", On: one(e)}}
	full.Parts[0].Group, full.Limit = one(a), one(a)
	for _, s := range []api.Select{sel(e), sel(a, e), parts(values([]api.Expr{a, e})), parts(values(one(a), one(e))), full,
		parts(part(a), comp(api.CompAll, part(e))), {Parts: one1(part(a)), Order: []api.Sort{{Expr: a}, {Expr: e}}}, {Parts: one1(part(a)), Limit: one(e)}, {Parts: one1(part(a)), Limit: one(a), Offset: one(e)},
		parts(api.Part{Items: part(a).Items, Where: one(e)}), parts(api.Part{Items: part(a).Items, Group: []api.Expr{a, e}}), parts(api.Part{Items: part(a).Items, Group: one(a), Having: one(e)}),
		parts(from(api.Source{Sub: subs(sel(e))})), {With: []api.Cte{{Name: "w", Body: subs(sel(e))}}, Parts: one1(part(a))}, sel(op(api.OpAdd, a, e)), sel(scalar(sel(e)))} {
		checksSelect(t, s, want)
	}
}

func one1(p api.Part) []api.Part { return []api.Part{p} }

func checksSelect(t *testing.T, s api.Select, want api.Errno) {
	t.Helper()
	if no := expr.CheckSelect(s); no != want {
		t.Errorf("%+v: %v, not %v", s, no, want)
	}
	if text, no := expr.PrintSelect(s); no != want || (text == "") != (want != api.OK) {
		t.Errorf("%+v: %q %v, not %v", s, text, no, want)
	}
}

func TestP163TreesThatNoTextHas(t *testing.T) {
	lit := func(kind api.Kind, n int64, s string) api.Expr {
		return api.Expr{Op: api.OpLit, V: api.Value{Kind: kind, Int: n, Text: s}}
	}
	long, query := strings.Repeat("a", api.MaxValue), subs(sel(a))
	two := append(subs(sel(a)), sel(b))
	for _, e := range []api.Expr{
		{}, {Op: -1}, {Op: api.OpCall + 1}, {Op: 99, Args: []api.Expr{a, b}}, {Op: 0, Args: []api.Expr{a, b}},
		num(-1), num(-1 << 63), lit(api.KindText, 0, long+"a"), lit(api.KindBlob, 0, long+"a"), lit(api.KindText, 1, "a"), lit(api.KindNull, 1, ""), lit(api.KindNull, 0, "a"), lit(api.KindInt, 1, "a"), lit(4, 0, ""), lit(-1, 0, ""), lit(api.KindText, -1, ""),
		{Op: api.OpLit, Name: "a"}, {Op: api.OpLit, Table: "a"}, {Op: api.OpLit, N: 1}, {Op: api.OpLit, Not: true}, {Op: api.OpLit, Args: one(a)}, {Op: api.OpLit, Sub: query},
		col(""), col("select"), col("replace"), col("a b"), col("1"), col("a.b"), col(strings.Repeat("a", api.MaxName+1)), of("select", "a"), of("a", ""), of("1", "a"), {Op: api.OpCol, Name: "a", N: 1}, {Op: api.OpCol, Name: "a", Not: true}, {Op: api.OpCol, Name: "a", Args: one(a)}, {Op: api.OpCol, Name: "a", Sub: query}, {Op: api.OpCol, Name: "a", V: num(1).V},
		param(0), param(-1), param(api.MaxParams + 1), param(-1 << 63), {Op: api.OpParam, N: 1, Name: "a"}, {Op: api.OpParam, N: 1, Args: one(a)}, {Op: api.OpParam, N: 1, Sub: query}, {Op: api.OpParam, N: 1, V: num(1).V},
		op(api.OpNeg), op(api.OpNeg, a, b), op(api.OpPlus), op(api.OpPlus, a, b), op(api.OpNot), op(api.OpNot, a, b), not(op(api.OpNot, a)), not(op(api.OpNeg, a)), {Op: api.OpNeg, Args: one(a), Sub: query}, {Op: api.OpNot, Args: one(a), Name: "a"},
		op(api.OpAdd), op(api.OpAdd, a), op(api.OpAdd, a, b, c), not(op(api.OpAdd, a, b)), op(api.OpOr, a), op(api.OpAnd, a, b, c), op(api.OpIs, a), not(op(api.OpIs, a, b)), not(op(api.OpEq, a, b)), not(op(api.OpOr, a, b)), {Op: api.OpEq, Args: []api.Expr{a, b}, Sub: query}, {Op: api.OpMul, Args: []api.Expr{a, b}, N: 1}, {Op: api.OpConcat, Args: []api.Expr{a, b}, V: num(1).V},
		op(api.OpLike, a), op(api.OpLike, a, b, c), op(api.OpGlob), op(api.OpGlob, a, b, c), {Op: api.OpLike, Args: []api.Expr{a, b}, Sub: query}, {Op: api.OpLike, Args: []api.Expr{a, b}, N: 1}, op(api.OpBetween, a, b), op(api.OpBetween, a, b, c, d), {Op: api.OpBetween, Args: []api.Expr{a, b, c}, Sub: query}, {Op: api.OpBetween, Args: []api.Expr{a, b, c}, Name: "a"},
		op(api.OpIn), in(sel(a)), in(sel(a), a, b), {Op: api.OpIn, Args: one(a), Sub: two}, {Op: api.OpIn, Sub: query}, {Op: api.OpIn, Args: one(a), N: 1},
		op(api.OpExists), {Op: api.OpExists, Sub: two}, {Op: api.OpExists, Sub: query, Args: one(a)}, {Op: api.OpExists, Sub: query, N: 1}, exists(api.Select{}), op(api.OpScalar), {Op: api.OpScalar, Sub: two}, not(scalar(sel(a))), {Op: api.OpScalar, Sub: query, Args: one(a)}, scalar(api.Select{}),
		cases(0), cases(0, a), cases(0, a, b, c), cases(1, a), cases(1, a, b), cases(1, a, b, c, d), cases(2), cases(2, a), cases(2, a, b), cases(3, a, b), cases(3, a, b, c), cases(4, a, b), cases(-1, a, b, c), cases(4, a, b, c, d), cases(-4, a, b), cases(-2, a, b), cases(5, a, b, c), not(cases(0, a, b)), {Op: api.OpCase, Args: []api.Expr{a, b}, Name: "a"}, {Op: api.OpCase, Args: []api.Expr{a, b}, Sub: query},
		cast(a, ""), cast(a, "integers"), cast(a, "NOCASE"), cast(a, " int"), {Op: api.OpCast, Name: "int"}, {Op: api.OpCast, Name: "int", Args: []api.Expr{a, b}}, {Op: api.OpCast, Name: "int", Args: one(a), N: 1}, {Op: api.OpCast, Name: "int", Args: one(a), Sub: query},
		collate(a, ""), collate(a, "int"), collate(a, "binary "), {Op: api.OpCollate, Name: "binary"}, {Op: api.OpCollate, Name: "binary", Args: []api.Expr{a, b}}, {Op: api.OpCollate, Name: "binary", Args: one(a), Table: "a"}, {Op: api.OpCollate, Name: "binary", Args: one(a), Sub: query},
		call("", 0), call("select", 0), call("f g", 0), call("1", 0), call("f", 1), call("f", 1, a, b), call("f", 2, a), call("f", 3), call("f", -1), call("f", 3, a), {Op: api.OpCall, Name: "f", Table: "a"}, {Op: api.OpCall, Name: "f", Sub: query}, not(call("f", 0)), {Op: api.OpCall, Name: "f", V: num(1).V},
	} {
		checks(t, e, api.ErrTree)
		checks(t, op(api.OpNeg, e), api.ErrTree)
		checks(t, op(api.OpBetween, a, b, e), api.ErrTree)
		checks(t, in(sel(a), e), api.ErrTree)
	}
}

func TestP163TreesThatATextHas(t *testing.T) {
	long := strings.Repeat("a", api.MaxValue)
	for _, e := range []api.Expr{
		null(), num(0), num(1<<63 - 1), text(""), text(long), blob(long), blob(""), text("\x00\xff'"), a, of("A", "Int"), col(strings.Repeat("a", api.MaxName)), param(1), param(api.MaxParams),
		op(api.OpNeg, num(1)), op(api.OpIn, a), op(api.OpIn, a, b, c), in(sel(a), a), not(in(sel(a), a)), not(op(api.OpIn, a)), exists(sel(a)), not(exists(sel(a))), scalar(sel(a)), not(op(api.OpLike, a, b)), not(op(api.OpGlob, a, b)), not(op(api.OpBetween, a, b, c)),
		cases(0, a, b), cases(0, a, b, c, d), cases(1, a, b, c), cases(2, a, b, c), cases(3, a, b, c, d), cast(a, "Integer"), cast(a, "iNT"), cast(a, "text"), cast(a, "BLOB"), collate(a, "Binary"), collate(a, "noCase"), collate(a, "RTRIM"), call("f", 0), call("f", 0, a, b, c), call("f", 1, a), call("f", 2), call("REPLACE", 0, a), call("replace", 1, a), call("rePlace", 2),
		{Op: api.OpIn, Args: one(a), Sub: []api.Select{}}, {Op: api.OpCol, Name: "a", Args: []api.Expr{}, Sub: []api.Select{}}, {Op: api.OpCall, Name: "f", Args: []api.Expr{}},
	} {
		checks(t, e, api.OK)
	}
	for o := api.OpAdd; o <= api.OpOr; o++ {
		checks(t, op(o, a, b), api.OK)
	}
}

func TestP163Selects(t *testing.T) {
	star := api.Item{Star: true}
	items := func(l ...api.Item) api.Select { return parts(api.Part{Items: l}) }
	table := func(c api.Cte) api.Select {
		s := sel(a)
		s.With = []api.Cte{c}
		return s
	}
	ab, both := []api.Expr{a, b}, []api.Select{sel(a), sel(b)}
	tables := table(api.Cte{Name: "w", Body: subs(sel(a))})
	src := api.Source{Name: "t"}
	with := func(change func(*api.Part)) api.Select {
		s := parts(from(src))
		change(&s.Parts[0])
		return s
	}
	for _, s := range []api.Select{
		{}, {With: tables.With}, {Limit: one(a)}, {Order: []api.Sort{{Expr: a}}}, items(), parts(comp(api.CompUnion, part(a))), parts(part(a), part(b)), parts(part(a), comp(api.CompExcept+1, part(b))), parts(comp(-1, part(a))), parts(comp(5, part(a))), parts(part(a), comp(-1, part(b))), parts(part(a), api.Part{}), parts(part(a), comp(api.CompAll, api.Part{})), parts(api.Part{Distinct: true}),
		items(api.Item{}), items(api.Item{Expr: ab}), items(api.Item{Star: true, Expr: one(a)}), items(api.Item{Star: true, As: "a"}), items(api.Item{Star: true, Table: "select"}), items(api.Item{Star: true, Table: "1"}), items(api.Item{Table: "t", Expr: one(a)}), items(api.Item{Table: "t"}), items(api.Item{Expr: one(a), As: "select"}), items(api.Item{Expr: one(a), As: "a b"}), items(item(a), api.Item{}), items(star, api.Item{As: "x"}),
		with(func(p *api.Part) { p.Where = ab }), with(func(p *api.Part) { p.Having = one(a) }), with(func(p *api.Part) { p.Group, p.Having = one(a), ab }), with(func(p *api.Part) { p.Group, p.Having = ab, ab }), with(func(p *api.Part) { p.Items = nil }),
		parts(from(api.Source{})), parts(from(api.Source{As: "a"})), parts(from(api.Source{Name: "select"})), parts(from(api.Source{Name: "replace"})), parts(from(api.Source{Name: "t", Sub: subs(sel(a))})), parts(from(api.Source{Sub: both})), parts(from(api.Source{Name: "t", As: "1"})), parts(from(api.Source{Name: "t", On: one(a)})), parts(from(api.Source{Name: "t", Join: api.JoinLeft})), parts(from(api.Source{Name: "t", Join: 2})), parts(from(api.Source{Name: "t", Join: -1})), parts(from(src, api.Source{Name: "t", Join: 2})), parts(from(src, api.Source{Name: "t", Join: -1})), parts(from(src, api.Source{Name: "t", On: ab})), parts(from(src, api.Source{Name: "t.u"})), parts(from(src, api.Source{})), parts(from(api.Source{Sub: subs(tables)})), parts(from(src, api.Source{Sub: subs(api.Select{})})), parts(from(api.Source{Sub: subs(sel(a)), As: "on"})),
		parts(values(nil)), parts(values(one(a), ab)), parts(values(ab, one(a))), parts(values(one(a), nil)), parts(values(nil, nil)), parts(api.Part{Values: [][]api.Expr{ab}, Distinct: true}), parts(api.Part{Values: [][]api.Expr{ab}, Items: []api.Item{star}}), parts(api.Part{Values: [][]api.Expr{ab}, From: []api.Source{src}}), parts(api.Part{Values: [][]api.Expr{ab}, Where: one(a)}), parts(api.Part{Values: [][]api.Expr{ab}, Group: one(a)}), parts(api.Part{Values: [][]api.Expr{ab}, Having: one(a)}),
		parts(api.Part{Values: [][]api.Expr{ab}, Items: []api.Item{star}, From: []api.Source{src}}), parts(api.Part{Values: [][]api.Expr{ab}, Items: []api.Item{star}, Where: one(a)}), parts(api.Part{Values: [][]api.Expr{ab}, From: []api.Source{src}, Group: one(a)}), parts(api.Part{Values: [][]api.Expr{ab}, Group: one(a), Having: one(a)}),
		{Parts: one1(part(a)), Offset: one(a)}, {Parts: one1(part(a)), Limit: ab}, {Parts: one1(part(a)), Limit: one(a), Offset: ab}, {Parts: one1(part(a)), Limit: ab, Offset: ab}, {Parts: one1(part(a)), Order: []api.Sort{{}}},
		table(api.Cte{Name: "w"}), table(api.Cte{Body: subs(sel(a))}), table(api.Cte{Name: "with", Body: subs(sel(a))}), table(api.Cte{Name: "w", Body: both}), table(api.Cte{Name: "w", Cols: []string{""}, Body: subs(sel(a))}), table(api.Cte{Name: "w", Cols: []string{"a", "as"}, Body: subs(sel(a))}), table(api.Cte{Name: "w", Body: subs(tables)}), table(api.Cte{Name: "w", Body: subs(api.Select{})}),
		sel(scalar(tables)), sel(exists(tables)), sel(in(tables, a)), sel(op(api.OpNeg, scalar(tables))), parts(from(src, api.Source{Sub: subs(tables)})),
	} {
		checksSelect(t, s, api.ErrTree)
		checks(t, scalar(s), api.ErrTree)
		checks(t, not(exists(s)), api.ErrTree)
	}
	for _, s := range []api.Select{
		sel(a), tables, table(api.Cte{Name: "w", Cols: []string{"a", "a"}, Body: subs(sel(a))}), items(star, star, api.Item{Star: true, Table: "t"}, api.Item{Expr: one(a), As: "a"}), parts(part(a), comp(api.CompUnion, part(a)), comp(api.CompAll, part(a)), comp(api.CompIntersect, part(a)), comp(api.CompExcept, values(ab))),
		parts(values(ab, ab)), parts(from(src, src, api.Source{Name: "t", Join: api.JoinLeft, On: one(a)}, api.Source{Sub: subs(sel(a))})), with(func(p *api.Part) { p.Group, p.Having, p.Where, p.Distinct = ab, one(a), one(a), true }), {Parts: one1(part(a)), Limit: one(a), Offset: one(a), Order: []api.Sort{{Expr: a, Desc: true}}},
		{With: []api.Cte{}, Parts: []api.Part{{Items: part(a).Items, From: []api.Source{}, Where: []api.Expr{}, Group: []api.Expr{}, Having: []api.Expr{}, Values: [][]api.Expr{}}}, Order: []api.Sort{}, Limit: []api.Expr{}, Offset: []api.Expr{}},
	} {
		checksSelect(t, s, api.OK)
	}
}

// TestP163DeepFirst: what is both too deep and no text's tree is told to be too deep.
func TestP163DeepFirst(t *testing.T) {
	checks(t, deep(api.MaxDepth-1, a), api.OK)
	checks(t, deep(api.MaxDepth, a), api.ErrDeep)
	checks(t, deep(api.MaxDepth-1, num(-1)), api.ErrTree)
	checks(t, deep(api.MaxDepth, num(-1)), api.ErrDeep)
	checks(t, op(99, num(-1), deep(api.MaxDepth-1, a)), api.ErrDeep)
	checks(t, api.Expr{Op: api.OpLit, Args: one(deep(api.MaxDepth-1, a))}, api.ErrDeep)
	checksSelect(t, sel(deep(api.MaxDepth-2, a)), api.OK)
	checksSelect(t, sel(deep(api.MaxDepth-1, a)), api.ErrDeep)
	checksSelect(t, sel(num(-1), deep(api.MaxDepth-1, a)), api.ErrDeep)
	checksSelect(t, api.Select{Offset: one(deep(api.MaxDepth-1, a))}, api.ErrDeep)
	checksSelect(t, api.Select{With: []api.Cte{{Body: subs(sel(deep(api.MaxDepth-2, a)))}}}, api.ErrDeep)
	checks(t, scalar(sel(deep(api.MaxDepth-3, a))), api.OK)
	checks(t, scalar(sel(deep(api.MaxDepth-2, a))), api.ErrDeep)
}

// places gathers what can be changed in a tree.
func places(v reflect.Value, l []reflect.Value) []reflect.Value {
	switch v.Kind() {
	case reflect.Struct:
		for i := range v.NumField() {
			l = places(v.Field(i), l)
		}
	case reflect.Slice:
		l = append(l, v)
		for i := range v.Len() {
			l = places(v.Index(i), l)
		}
	default:
		l = append(l, v)
	}
	return l
}

// spoil changes one place of a tree in some way.
func (d *drawer) spoil(tree any) {
	l := places(reflect.ValueOf(tree).Elem(), nil)
	switch v := l[d.Intn(len(l))]; v.Kind() {
	case reflect.Bool:
		v.SetBool(!v.Bool())
	case reflect.Int, reflect.Int64:
		v.SetInt([]int64{-1, 0, 1, 2, 3, 4, v.Int() + 1, v.Int() - 1, 16, 17, 99}[d.Intn(11)])
	case reflect.String:
		v.SetString([]string{"", "a", "int", "binary", "replace", "select", "a b", "1", strings.Repeat("a", api.MaxName+d.Intn(2))}[d.Intn(9)])
	case reflect.Slice:
		n := v.Len()
		switch k := d.Intn(4); {
		case k == 0 && n > 0:
			v.Set(v.Slice(0, n-1))
		case k == 1 && n > 0:
			v.Set(reflect.Append(v.Slice3(0, n, n), v.Index(d.Intn(n))))
		case k == 2:
			v.Set(reflect.Append(v.Slice3(0, n, n), reflect.Zero(v.Type().Elem())))
		case k == 3:
			v.Set(reflect.Zero(v.Type()))
		}
	}
}

// told is the tree that the words of a tree are read as; none, if they are no text.
func told(words []string) (api.Select, bool) {
	var l []api.Token
	for _, w := range words {
		if w == "~" {
			continue
		}
		cut, _, e := token.Scan(w)
		if e != api.OK {
			return api.Select{}, false
		}
		l = append(l, cut...)
	}
	s, at, _, e := expr.TakeSelect(l, 0, 0)
	return s, e == api.OK && at == len(l)
}

// TestP163SpoiltTrees: a tree may be just if its text is read as it.
func TestP163SpoiltTrees(t *testing.T) {
	d := newDrawer(5)
	count := map[api.Errno]int{}
	for i := range 8000 {
		s := d.whole(1 + i%4)
		for range 1 + d.Intn(2) {
			d.spoil(&s)
		}
		want := api.ErrTree
		if again, is := told(printed().sel(s)); is && expr.SameSelect(again, s) {
			want = api.OK
		}
		if no := expr.CheckSelect(s); no != want {
			t.Fatalf("%+v: %v, not %v", s, no, want)
		}
		if text, no := expr.PrintSelect(s); no != want || want == api.OK && text != spelt(printed().sel(s)) {
			t.Fatalf("%+v: %q, %v, not %v", s, text, no, want)
		}
		count[want]++
	}
	if count[api.OK] < 800 || count[api.ErrTree] < 800 {
		t.Error(count)
	}
}
