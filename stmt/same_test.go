package stmt_test

import (
	"reflect"
	"slices"
	"testing"

	"bureau/api"
	"bureau/expr"
	"bureau/stmt"
)

// TestP173Same: two statements are the same just if no place of theirs differs.
func TestP173Same(t *testing.T) {
	d := newDrawer(8)
	differ := 0
	for range 8000 {
		x := d.stmt()
		y := copied(x)
		if !stmt.Same(x, y) || !stmt.Same(y, x) {
			t.Fatalf("%+v is not the same as it", x)
		}
		for range 1 + d.Intn(2) {
			d.spoil(&y)
		}
		want := reflect.DeepEqual(plain(x), plain(y))
		if stmt.Same(x, y) != want || stmt.Same(y, x) != want {
			t.Fatalf("%+v, %+v: the same: %v", x, y, !want)
		}
		if !want {
			differ++
		}
	}
	if differ < 4000 {
		t.Error(differ)
	}
}

// fullStmt has something in each field.
func fullStmt() api.Stmt {
	return api.Stmt{
		Kind: api.StmtInsert, What: "w", If: true, Unique: true, Or: api.ConfIgnore, Name: "n", Table: "t", To: "o", Cols: []string{"c", "d"},
		Defs: []api.ColDef{{Name: "a", Type: "TEXT", Coll: 1, Primary: true, Unique: true, NotNull: true, Default: one("1"), Check: one("2")}, {Name: "b", Default: one("3"), Check: one("4")}},
		Keys: []api.IndexCol{{Name: "a", Coll: 1, Own: true, Desc: true}, {Name: "b"}},
		Sets: []api.Set{{Name: "a", Expr: ex("5")}, {Name: "b", Expr: ex("6")}}, Where: one("7"), Select: sub("select 8"),
	}
}

// TestP173SameByHand changes each place of a full statement.
func TestP173SameByHand(t *testing.T) {
	full := fullStmt()
	n := len(places(reflect.ValueOf(&full).Elem(), nil))
	for i := range n {
		other := copied(full)
		switch v := places(reflect.ValueOf(&other).Elem(), nil)[i]; v.Kind() {
		case reflect.Bool:
			v.SetBool(!v.Bool())
		case reflect.Int, reflect.Int64:
			v.SetInt(v.Int() + 1)
		case reflect.String:
			v.SetString(v.String() + "x")
		case reflect.Slice:
			v.Set(reflect.Append(v, reflect.Zero(v.Type().Elem())))
		}
		if stmt.Same(full, other) || stmt.Same(other, full) || !stmt.Same(other, copied(other)) {
			t.Errorf("%+v", other)
		}
	}
	upper := copied(full)
	upper.Name = "N"
	if stmt.Same(full, upper) || !stmt.Same(api.Stmt{}, api.Stmt{}) || stmt.Same(full, api.Stmt{}) {
		t.Error("letters, or nothing")
	}
}

func greatestOf(v reflect.Value) int {
	greatest := 0
	switch v.Kind() {
	case reflect.Struct:
		if e, is := v.Interface().(api.Expr); is && e.Op == api.OpParam {
			greatest = max(greatest, e.N)
		}
		for i := range v.NumField() {
			greatest = max(greatest, greatestOf(v.Field(i)))
		}
	case reflect.Slice:
		for i := range v.Len() {
			greatest = max(greatest, greatestOf(v.Index(i)))
		}
	}
	return greatest
}

// exprsOf tells what stands right in a statement, in the chapter's order.
func exprsOf(s api.Stmt) []api.Expr {
	var l []api.Expr
	for _, x := range s.Sets {
		l = append(l, x.Expr)
	}
	l = append(l, s.Where...)
	for _, c := range s.Defs {
		l = append(append(l, c.Default...), c.Check...)
	}
	return l
}

// putParam makes a parameter of one of a statement's expressions, wherever it lies.
func (d drawer) putParam(s *api.Stmt) {
	var l []*api.Expr
	var gather func(v reflect.Value)
	gather = func(v reflect.Value) {
		if e, is := v.Addr().Interface().(*api.Expr); is {
			l = append(l, e)
		}
		switch v.Kind() {
		case reflect.Struct:
			for i := range v.NumField() {
				gather(v.Field(i))
			}
		case reflect.Slice:
			for i := range v.Len() {
				gather(v.Index(i))
			}
		}
	}
	gather(reflect.ValueOf(s).Elem())
	if len(l) > 0 {
		e := l[d.Intn(len(l))]
		e.Op, e.N = api.OpParam, d.Intn(20)-3
	}
}

func TestP173ParamsAndExprs(t *testing.T) {
	d := newDrawer(9)
	count := 0
	for range 6000 {
		s := copied(d.stmt())
		for range d.Intn(4) {
			d.spoil(&s)
			d.putParam(&s)
		}
		want := greatestOf(reflect.ValueOf(s))
		if got := stmt.Params(s); got != want {
			t.Fatalf("%+v: %d, not %d", s, got, want)
		}
		if want > 0 {
			count++
		}
		if got := slices.Collect(stmt.Exprs(s)); !slices.EqualFunc(got, exprsOf(s), expr.Same) {
			t.Fatalf("%+v: %+v", s, got)
		}
	}
	if count < 500 {
		t.Error(count)
	}
}

func TestP173ParamsByHand(t *testing.T) {
	p := one("?9")
	for _, s := range []api.Stmt{
		{Where: p}, {Where: append(one("a"), p...)}, {Sets: []api.Set{{}, {Expr: p[0]}}}, {Defs: []api.ColDef{{}, {Default: p}}}, {Defs: []api.ColDef{{}, {Check: p}}}, {Defs: []api.ColDef{{Check: append(one("?3"), p...)}}}, {Select: sub("select ?9")}, {Select: append(sub("select ?3"), sub("with w as (select ?9) select 1 limit ?2")...)}, {Kind: api.StmtCommit, Where: one("a in (select ?9)"), Select: sub("select ?8")},
		{Kind: 99, Sets: []api.Set{{Expr: ex("?9")}, {Expr: ex("?8")}}, Where: one("?7")}, {Where: one("?2"), Defs: []api.ColDef{{Default: one("?1"), Check: one("?9")}, {Default: one("?8")}}},
	} {
		if got := stmt.Params(s); got != 9 {
			t.Errorf("%+v: %d", s, got)
		}
	}
	below := api.Expr{Op: api.OpParam, N: -4}
	for _, s := range []api.Stmt{{}, fullStmt(), {Where: []api.Expr{below}}, {Where: []api.Expr{{Op: api.OpParam}}}} {
		if got := stmt.Params(s); got != 0 {
			t.Errorf("%+v: %d", s, got)
		}
	}
	if got := stmt.Params(api.Stmt{Where: []api.Expr{{Op: api.OpParam, N: 99}}}); got != 99 {
		t.Error(got)
	}
}

// TestP173ExprsStop: going over them may stop anywhere, and begin again.
func TestP173ExprsStop(t *testing.T) {
	s := fullStmt()
	all := []string{"5", "6", "7", "1", "2", "3", "4"}
	seq := stmt.Exprs(s)
	for stop := range len(all) + 1 {
		var got []string
		for e := range seq {
			if len(got) == stop {
				break
			}
			text, _ := expr.Print(e)
			got = append(got, text)
		}
		if !slices.Equal(got, all[:stop]) {
			t.Error(stop, got)
		}
	}
	calls := 0
	seq(func(api.Expr) bool {
		calls++
		return calls < 3
	})
	if calls != 3 {
		t.Error("called", calls, "times")
	}
	for _, none := range []api.Stmt{{}, {Select: sub("select 1")}, {Kind: api.StmtInsert, Name: "t", Select: sub("select 1 where 2")}, {Defs: []api.ColDef{{Name: "a"}}}} {
		for e := range stmt.Exprs(none) {
			t.Error(e)
		}
	}
}

// TestP173ExprsOwn: what is handed over is the caller's own, and what becomes of the statement later does not matter.
func TestP173ExprsOwn(t *testing.T) {
	deepOne := "a + case b when 1 then (select x from (select 1) where y in (1, 2)) end"
	s := api.Stmt{Kind: api.StmtUpdate, Name: "t", Sets: []api.Set{{Name: "a", Expr: ex(deepOne)}}, Where: one(deepOne), Defs: []api.ColDef{{Default: one(deepOne), Check: one(deepOne)}}}
	was := copied(s)
	seq := stmt.Exprs(s)
	for range 2 {
		n := 0
		for e := range seq {
			if !expr.Same(e, ex(deepOne)) {
				t.Errorf("%+v", e)
			}
			ruin(reflect.ValueOf(&e).Elem())
			n++
		}
		if n != 4 || !reflect.DeepEqual(s, was) {
			t.Fatal(n, "or the statement is changed")
		}
	}
	ruin(reflect.ValueOf(&s).Elem())
	for e := range seq {
		if !expr.Same(e, ex(deepOne)) {
			t.Errorf("%+v", e)
		}
	}
}

// ruin overwrites all that a tree's memory holds.
func ruin(v reflect.Value) {
	for _, p := range places(v, nil) {
		switch p.Kind() {
		case reflect.Bool:
			p.SetBool(!p.Bool())
		case reflect.Int, reflect.Int64:
			p.SetInt(77)
		case reflect.String:
			p.SetString("ruined")
		}
	}
}

// TestP173NothingChanged: no call changes what it is handed.
func TestP173NothingChanged(t *testing.T) {
	d := newDrawer(12)
	for range 500 {
		s := d.stmt()
		if d.yes() {
			s = copied(s)
			d.spoil(&s)
		}
		was := copied(s)
		stmt.Check(s)
		stmt.Print(s)
		stmt.Same(s, was)
		stmt.Params(s)
		for range stmt.Exprs(s) {
		}
		if !reflect.DeepEqual(s, was) {
			t.Fatalf("%+v is now %+v", was, s)
		}
	}
}

// TestP173DeepTrees: trees of any depth are gone through.
func TestP173DeepTrees(t *testing.T) {
	const many = 1 << 16
	chain := func(last api.Expr) api.Expr {
		e := last
		for range many {
			e = api.Expr{Op: api.OpNeg, Args: []api.Expr{e}}
		}
		return e
	}
	selects := sub("select ?5")
	for range many {
		selects = []api.Select{{Parts: []api.Part{{From: []api.Source{{Sub: selects}}}}}}
	}
	for _, s := range []api.Stmt{{Where: []api.Expr{chain(ex("?5"))}}, {Sets: []api.Set{{Expr: chain(ex("?5"))}}}, {Defs: []api.ColDef{{Check: []api.Expr{chain(ex("?5"))}}}}, {Select: selects}} {
		if c, p := stmt.Check(s), stmt.Params(s); c != api.ErrDeep || p != 5 || !stmt.Same(s, s) {
			t.Error(c, p)
		}
		if text, no := stmt.Print(s); text != "" || no != api.ErrDeep {
			t.Error(len(text), no)
		}
		for e := range stmt.Exprs(s) {
			if !expr.Same(e, chain(ex("?5"))) {
				t.Error("another one")
			}
		}
	}
}
