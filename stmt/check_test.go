package stmt_test

import (
	"reflect"
	"strings"
	"testing"

	"bureau/api"
	"bureau/stmt"
)

// wholes are statements that a text has, one of each kind at least.
func wholes() []api.Stmt {
	return []api.Stmt{
		{Kind: api.StmtSelect, Select: sub("select 1")},
		{Kind: api.StmtInsert, Name: "t", Select: sub("select 1")},
		{Kind: api.StmtInsert, Or: api.ConfReplace, Name: "t", Cols: []string{"a", "a"}, Select: sub("with w as (select 1) select 2")},
		{Kind: api.StmtUpdate, Name: "t", Sets: []api.Set{{Name: "a", Expr: ex("1")}}},
		{Kind: api.StmtUpdate, Or: api.ConfIgnore, Name: "t", Sets: []api.Set{{Name: "a", Expr: ex("b")}, {Name: "a", Expr: ex("?16")}}, Where: one("c")},
		{Kind: api.StmtDelete, Name: "t"},
		{Kind: api.StmtDelete, Name: "t", Where: one("exists (select 1)")},
		{Kind: api.StmtTable, Name: "t", Defs: []api.ColDef{{Name: "a"}}},
		{Kind: api.StmtTable, If: true, Name: "t", Defs: []api.ColDef{{Name: "a", Type: "BLOB"}, {Name: "a", Type: "TEXT", Coll: api.CollRTrim, Primary: true, Unique: true, NotNull: true, Default: neg("1"), Check: one("a > 1")}}},
		{Kind: api.StmtIndex, Name: "i", Table: "t", Keys: []api.IndexCol{{Name: "a"}}},
		{Kind: api.StmtIndex, Unique: true, If: true, Name: "i", Table: "t", Keys: []api.IndexCol{{Name: "a", Own: true}, {Name: "a", Own: true, Coll: api.CollNoCase, Desc: true}}},
		{Kind: api.StmtView, Name: "v", Select: sub("select 1")},
		{Kind: api.StmtView, If: true, Name: "v", Cols: []string{"a"}, Select: sub("values (1) union select 2")},
		{Kind: api.StmtDrop, What: "table", Name: "t"}, {Kind: api.StmtDrop, What: "index", If: true, Name: "t"}, {Kind: api.StmtDrop, What: "view", Name: "t"},
		{Kind: api.StmtRename, Name: "t", To: "t"},
		{Kind: api.StmtRenameCol, Name: "t", Cols: []string{"a"}, To: "b"},
		{Kind: api.StmtAddCol, Name: "t", Defs: []api.ColDef{{Name: "a", Type: "INTEGER", Coll: api.CollNoCase, Default: one("x'00'")}}},
		{Kind: api.StmtBegin, What: "deferred"}, {Kind: api.StmtBegin, What: "immediate"}, {Kind: api.StmtBegin, What: "exclusive"},
		{Kind: api.StmtCommit}, {Kind: api.StmtRollback}, {Kind: api.StmtSavepoint, Name: "s"}, {Kind: api.StmtRelease, Name: "s"}, {Kind: api.StmtRollTo, Name: "s"},
	}
}

func TestP172Wholes(t *testing.T) {
	for _, s := range wholes() {
		checks(t, s, api.OK)
		reads(t, printed(t, s), s)
	}
}

// TestP172FieldsOfOtherKinds: what a kind does not name is zero, and what it must have is not.
func TestP172FieldsOfOtherKinds(t *testing.T) {
	const must, may, not = 2, 1, 0
	fields := []struct {
		name string
		set  any
	}{
		{"What", "table"}, {"If", true}, {"Unique", true}, {"Or", api.ConfIgnore}, {"Name", "n"}, {"Table", "n"}, {"To", "n"}, {"Cols", []string{"a"}},
		{"Defs", []api.ColDef{{Name: "a"}}}, {"Keys", []api.IndexCol{{Name: "a"}}}, {"Sets", []api.Set{{Name: "a", Expr: ex("1")}}}, {"Where", one("1")}, {"Select", sub("select 1")},
	}
	named := map[api.StmtKind]string{
		api.StmtSelect: "Select!", api.StmtInsert: "Or Name! Cols Select!", api.StmtUpdate: "Or Name! Sets! Where", api.StmtDelete: "Name! Where", api.StmtTable: "If Name! Defs!",
		api.StmtIndex: "Unique If Name! Table! Keys!", api.StmtView: "If Name! Cols Select!", api.StmtDrop: "What! If Name!", api.StmtRename: "Name! To!", api.StmtRenameCol: "Name! Cols! To!", api.StmtAddCol: "Name! Defs!",
		api.StmtBegin: "What!", api.StmtCommit: "", api.StmtRollback: "", api.StmtSavepoint: "Name!", api.StmtRelease: "Name!", api.StmtRollTo: "Name!",
	}
	for _, s := range wholes() {
		words := strings.Fields(named[s.Kind])
		for _, f := range fields {
			has := not
			for _, w := range words {
				switch w {
				case f.name + "!":
					has = must
				case f.name:
					has = may
				}
			}
			other := s
			field := reflect.ValueOf(&other).Elem().FieldByName(f.name)
			field.Set(reflect.Zero(field.Type()))
			if has == must {
				checks(t, other, api.ErrTree)
			} else {
				checks(t, other, api.OK)
			}
			field.Set(reflect.ValueOf(f.set))
			switch {
			case s.Kind == api.StmtBegin && f.name == "What", has == not:
				checks(t, other, api.ErrTree)
			default:
				checks(t, other, api.OK)
			}
		}
	}
	for _, s := range wholes() {
		for _, kind := range []api.StmtKind{0, -1, api.StmtRollTo + 1, 99, -1 << 31} {
			s.Kind = kind
			checks(t, s, api.ErrTree)
			checks(t, api.Stmt{Kind: kind}, api.ErrTree)
		}
	}
}

// TestP172WrongNames: each name in a statement, with words that are none.
func TestP172WrongNames(t *testing.T) {
	full := strings.Repeat("n", api.MaxName)
	for _, s := range wholes() {
		for _, name := range namesIn(&s) {
			was := *name
			for _, w := range []string{"select", "REPLACE", "Column", "a b", " a", "a ", "1", "1a", "a.b", "'a'", "\"a\"", "a-", "?", "é", full + "n"} {
				*name = w
				checks(t, s, api.ErrTree)
			}
			for _, w := range []string{"int", "BINARY", "_", "A1", full} {
				*name = w
				checks(t, s, api.OK)
			}
			*name = ""
			checks(t, s, api.ErrTree)
			*name = was
		}
	}
}

func namesIn(s *api.Stmt) []*string {
	var l []*string
	for _, p := range []*string{&s.Name, &s.Table, &s.To} {
		if *p != "" {
			l = append(l, p)
		}
	}
	for i := range s.Cols {
		l = append(l, &s.Cols[i])
	}
	for i := range s.Defs {
		l = append(l, &s.Defs[i].Name)
	}
	for i := range s.Keys {
		l = append(l, &s.Keys[i].Name)
	}
	for i := range s.Sets {
		l = append(l, &s.Sets[i].Name)
	}
	return l
}

func TestP172WrongParts(t *testing.T) {
	def := func(d api.ColDef) api.Stmt {
		d.Name = "a"
		return api.Stmt{Kind: api.StmtTable, Name: "t", Defs: []api.ColDef{{Name: "b"}, d}}
	}
	keyed := func(k api.IndexCol) api.Stmt {
		k.Name = "a"
		return api.Stmt{Kind: api.StmtIndex, Name: "i", Table: "t", Keys: []api.IndexCol{{Name: "b"}, k}}
	}
	set := func(e ...api.Expr) api.Stmt {
		s := api.Stmt{Kind: api.StmtUpdate, Name: "t"}
		for _, x := range e {
			s.Sets = append(s.Sets, api.Set{Name: "a", Expr: x})
		}
		return s
	}
	wrong := api.Expr{Op: api.OpLit, V: api.Value{Kind: api.KindInt, Int: -1}}
	bad := []api.Select{{}}
	column := []api.ColDef{{Name: "a"}, {Name: "b"}}
	for _, s := range []api.Stmt{
		{}, {Kind: api.StmtSelect, Select: append(sub("select 1"), sub("select 2")...)}, {Kind: api.StmtSelect, Select: bad}, {Kind: api.StmtSelect, Select: append(sub("select 1"), bad...)}, {Kind: api.StmtInsert, Name: "t", Select: append(sub("select 1"), sub("select 2")...)}, {Kind: api.StmtInsert, Name: "t", Select: bad}, {Kind: api.StmtView, Name: "v", Select: bad}, {Kind: api.StmtView, Name: "v", Select: append(sub("select 1"), sub("select 2")...)},
		{Kind: api.StmtView, Name: "v", Select: sub("with w as (select 1) select 2")},
		{Kind: api.StmtInsert, Or: 3, Name: "t", Select: sub("select 1")}, {Kind: api.StmtInsert, Or: -1, Name: "t", Select: sub("select 1")}, {Kind: api.StmtUpdate, Or: 3, Name: "t", Sets: set(ex("1")).Sets}, {Kind: api.StmtUpdate, Or: -1, Name: "t", Sets: set(ex("1")).Sets}, {Kind: api.StmtUpdate, Or: 99, Name: "t", Sets: set(ex("1")).Sets},
		set(wrong), set(ex("1"), wrong), set(wrong, ex("1")), set(api.Expr{}), {Kind: api.StmtUpdate, Name: "t", Sets: set(ex("1")).Sets, Where: []api.Expr{wrong}}, {Kind: api.StmtUpdate, Name: "t", Sets: set(ex("1")).Sets, Where: []api.Expr{ex("1"), ex("2")}}, {Kind: api.StmtDelete, Name: "t", Where: []api.Expr{ex("1"), ex("1")}}, {Kind: api.StmtDelete, Name: "t", Where: []api.Expr{{}}}, {Kind: api.StmtDelete, Name: "t", Where: []api.Expr{ex("1"), {}}},
		{Kind: api.StmtDrop, What: "TABLE", Name: "t"}, {Kind: api.StmtDrop, What: "Table", Name: "t"}, {Kind: api.StmtDrop, What: "deferred", Name: "t"}, {Kind: api.StmtDrop, What: "column", Name: "t"}, {Kind: api.StmtDrop, What: "tables", Name: "t"}, {Kind: api.StmtDrop, What: "view ", Name: "t"},
		{Kind: api.StmtBegin, What: "DEFERRED"}, {Kind: api.StmtBegin, What: "Immediate"}, {Kind: api.StmtBegin, What: "table"}, {Kind: api.StmtBegin, What: "transaction"}, {Kind: api.StmtBegin, What: "exclusive "},
		{Kind: api.StmtRenameCol, Name: "t", Cols: []string{"a", "b"}, To: "c"}, {Kind: api.StmtAddCol, Name: "t", Defs: column},
		def(api.ColDef{Type: "INT"}), def(api.ColDef{Type: "integer"}), def(api.ColDef{Type: "Text"}), def(api.ColDef{Type: "blob"}), def(api.ColDef{Type: "REAL"}), def(api.ColDef{Type: "NULL"}), def(api.ColDef{Type: " "}), def(api.ColDef{Type: "TEXT "}), def(api.ColDef{Type: "NOCASE"}),
		def(api.ColDef{Coll: 3}), def(api.ColDef{Coll: -1}), def(api.ColDef{Coll: 99}), {Kind: api.StmtAddCol, Name: "t", Defs: []api.ColDef{{Name: "a", Coll: 3}}}, {Kind: api.StmtAddCol, Name: "t", Defs: []api.ColDef{{Name: "a", Type: "int"}}},
		def(api.ColDef{Default: one("a")}), def(api.ColDef{Default: one("?1")}), def(api.ColDef{Default: one("1 + 1")}), def(api.ColDef{Default: one("+1")}), def(api.ColDef{Default: one("not 1")}), def(api.ColDef{Default: one("- a")}), def(api.ColDef{Default: one("- 'a'")}), def(api.ColDef{Default: one("- x''")}), def(api.ColDef{Default: one("- null")}), def(api.ColDef{Default: one("- - 1")}), def(api.ColDef{Default: one("-(+1)")}), def(api.ColDef{Default: one("-?1")}), def(api.ColDef{Default: one("(select 1)")}), def(api.ColDef{Default: one("f()")}), def(api.ColDef{Default: one("1 collate binary")}), def(api.ColDef{Default: one("cast(1 as int)")}),
		def(api.ColDef{Default: []api.Expr{wrong}}), def(api.ColDef{Default: []api.Expr{{Op: api.OpNeg, Args: []api.Expr{wrong}}}}), def(api.ColDef{Default: []api.Expr{ex("1"), ex("2")}}), def(api.ColDef{Default: []api.Expr{{Op: api.OpNeg}}}), def(api.ColDef{Default: []api.Expr{{}}}), def(api.ColDef{Default: []api.Expr{{Op: api.OpNeg, Args: []api.Expr{ex("1"), ex("1")}}}}), def(api.ColDef{Default: []api.Expr{{Op: api.OpNeg, Not: true, Args: one("1")}}}), def(api.ColDef{Default: []api.Expr{{Op: api.OpLit, Name: "a"}}}),
		def(api.ColDef{Default: []api.Expr{{Op: api.OpLit, V: api.Value{Kind: api.KindText, Text: strings.Repeat("a", api.MaxValue+1)}}}}),
		def(api.ColDef{Check: []api.Expr{wrong}}), def(api.ColDef{Check: []api.Expr{ex("1"), ex("1")}}), def(api.ColDef{Check: []api.Expr{{}}}),
		keyed(api.IndexCol{Own: true, Coll: 3}), keyed(api.IndexCol{Own: true, Coll: -1}), keyed(api.IndexCol{Coll: api.CollNoCase}), keyed(api.IndexCol{Coll: api.CollRTrim, Desc: true}), keyed(api.IndexCol{Coll: 3}), keyed(api.IndexCol{Coll: -1}),
	} {
		checks(t, s, api.ErrTree)
	}
	for _, s := range []api.Stmt{
		def(api.ColDef{Default: one("null")}), def(api.ColDef{Default: neg("0")}), def(api.ColDef{Default: neg("9223372036854775807")}), def(api.ColDef{Default: one("'" + strings.Repeat("a", api.MaxValue) + "'")}), def(api.ColDef{Check: one("?16 and a in (select b from t)")}),
		keyed(api.IndexCol{Own: true}), keyed(api.IndexCol{Desc: true}), keyed(api.IndexCol{Own: true, Coll: api.CollRTrim}),
		{Kind: api.StmtTable, Name: "t", Defs: make17("a")}, {Kind: api.StmtSelect, Select: sub("with recursive w as (select 1) select 2")},
	} {
		checks(t, s, api.OK)
	}
}

// make17 is more columns than a table has: of their number layer 21 speaks.
func make17(name string) []api.ColDef {
	var l []api.ColDef
	for range api.MaxCols + 1 {
		l = append(l, api.ColDef{Name: name})
	}
	return l
}

// TestP172EmptyLists: an empty list is like none.
func TestP172EmptyLists(t *testing.T) {
	for _, s := range wholes() {
		other := copied(s)
		for _, p := range places(reflect.ValueOf(&other).Elem(), nil) {
			if p.Kind() == reflect.Slice && p.IsNil() {
				p.Set(reflect.MakeSlice(p.Type(), 0, 1))
			}
		}
		checks(t, other, api.OK)
		prints(t, other, printed(t, s))
		if !stmt.Same(s, other) || !stmt.Same(other, s) {
			t.Errorf("%+v, %+v", s, other)
		}
	}
	full := api.Stmt{Kind: api.StmtInsert, Name: "t", Select: []api.Select{}}
	checks(t, full, api.ErrTree)
	checks(t, api.Stmt{Kind: api.StmtUpdate, Name: "t", Sets: []api.Set{}}, api.ErrTree)
	checks(t, api.Stmt{Kind: api.StmtTable, Name: "t", Defs: []api.ColDef{}}, api.ErrTree)
	checks(t, api.Stmt{Kind: api.StmtIndex, Name: "i", Table: "t", Keys: []api.IndexCol{}}, api.ErrTree)
}

// TestP172DeepFirst: what is both too deep and no text's is told to be too deep, wherever the depth stands.
func TestP172DeepFirst(t *testing.T) {
	edge, over := ex(deep(api.MaxDepth)), api.Expr{Op: api.OpNeg, Args: one(deep(api.MaxDepth))}
	inSelect := func(e api.Expr) []api.Select {
		return []api.Select{{Parts: []api.Part{{Items: []api.Item{{Expr: []api.Expr{e}}}}}}}
	}
	at := func(e api.Expr) []api.Stmt {
		return []api.Stmt{
			{Kind: api.StmtUpdate, Name: "t", Sets: []api.Set{{Name: "a", Expr: e}}}, {Kind: api.StmtUpdate, Name: "t", Sets: []api.Set{{Name: "a", Expr: ex("1")}, {Name: "a", Expr: e}}}, {Kind: api.StmtUpdate, Name: "t", Sets: []api.Set{{Name: "a", Expr: ex("1")}}, Where: []api.Expr{e}}, {Kind: api.StmtDelete, Name: "t", Where: []api.Expr{e}},
			{Kind: api.StmtTable, Name: "t", Defs: []api.ColDef{{Name: "a", Check: []api.Expr{e}}}}, {Kind: api.StmtTable, Name: "t", Defs: []api.ColDef{{Name: "a", Check: one("1")}, {Name: "a", Default: one("1"), Check: []api.Expr{e}}}}, {Kind: api.StmtAddCol, Name: "t", Defs: []api.ColDef{{Name: "a", Check: []api.Expr{e}}}},
			{Kind: api.StmtSelect, Select: inSelect(e.Args[0])}, {Kind: api.StmtInsert, Name: "t", Select: inSelect(e.Args[0])}, {Kind: api.StmtView, Name: "v", Select: inSelect(e.Args[0])},
		}
	}
	wrong := func(s api.Stmt) []api.Stmt {
		a, b, c, d := s, s, s, s
		a.Kind, b.Name, c.What = 99, "select", "no"
		d.Keys = []api.IndexCol{{Coll: 7}}
		return []api.Stmt{a, b, c, d}
	}
	for i, s := range at(edge) {
		checks(t, s, api.OK)
		checks(t, at(over)[i], api.ErrDeep)
		for j, w := range wrong(s) {
			checks(t, w, api.ErrTree)
			checks(t, wrong(at(over)[i])[j], api.ErrDeep)
		}
	}
	for _, s := range []api.Stmt{
		{Where: []api.Expr{over}}, {Kind: api.StmtCommit, Where: []api.Expr{ex("1"), over}}, {Kind: api.StmtCommit, Sets: []api.Set{{Expr: over}}}, {Kind: api.StmtBegin, Defs: []api.ColDef{{Default: []api.Expr{over}}}}, {Kind: api.StmtBegin, Defs: []api.ColDef{{}, {Default: []api.Expr{{}, over}}}}, {Kind: api.StmtDrop, Defs: []api.ColDef{{Check: []api.Expr{{}, over}}}}, {Kind: api.StmtSavepoint, Select: inSelect(edge)}, {Kind: api.StmtSelect, Select: append(sub("select 1"), inSelect(edge)...)}, {Kind: api.StmtSelect, Select: []api.Select{{}, inSelect(edge)[0]}},
		{Kind: api.StmtTable, Name: "t", Defs: []api.ColDef{{Name: "a", Default: []api.Expr{over}}}},
	} {
		checks(t, s, api.ErrDeep)
	}
	checks(t, api.Stmt{Kind: api.StmtTable, Name: "t", Defs: []api.ColDef{{Name: "a", Default: []api.Expr{edge}}}}, api.ErrTree)
	checks(t, api.Stmt{Kind: api.StmtCommit, Where: []api.Expr{edge}}, api.ErrTree)
}

// TestP172LongTexts: a printed text has no limit.
func TestP172LongTexts(t *testing.T) {
	value := "'" + strings.Repeat("v", api.MaxValue) + "'"
	s := api.Stmt{Kind: api.StmtUpdate, Name: "t"}
	for range 20 {
		s.Sets = append(s.Sets, api.Set{Name: "a", Expr: ex(value)})
	}
	want := "UPDATE t SET a = " + value + strings.Repeat(", a = "+value, 19)
	prints(t, s, want)
	refuses(t, want, 0, api.ErrLong)
	wide := api.Stmt{Kind: api.StmtTable, Name: "t"}
	for range 300 {
		wide.Defs = append(wide.Defs, api.ColDef{Name: strings.Repeat("n", api.MaxName)})
	}
	prints(t, wide, "CREATE TABLE t("+strings.Repeat(strings.Repeat("n", api.MaxName)+", ", 299)+strings.Repeat("n", api.MaxName)+")")
}

// places gathers what can be changed in a statement.
func places(v reflect.Value, l []reflect.Value) []reflect.Value {
	switch v.Kind() {
	case reflect.Struct:
		for i := range v.NumField() {
			l = places(v.Field(i), l)
		}
	case reflect.Slice:
		l = append(l, v)
		for i := range v.Len() {
			l = places(v.Index(i), l)
		}
	default:
		l = append(l, v)
	}
	return l
}

// spoil changes one place of a statement in some way.
func (d drawer) spoil(s *api.Stmt) {
	l := places(reflect.ValueOf(s).Elem(), nil)
	switch v := l[d.Intn(len(l))]; v.Kind() {
	case reflect.Bool:
		v.SetBool(!v.Bool())
	case reflect.Int, reflect.Int64:
		v.SetInt([]int64{-1, 0, 1, 2, 3, 4, v.Int() + 1, v.Int() - 1, 16, 17, 99}[d.Intn(11)])
	case reflect.String:
		v.SetString(d.pick("", "a", "int", "INTEGER", "TEXT", "table", "index", "deferred", "immediate", "select", "a b", "1", strings.Repeat("a", api.MaxName+d.Intn(2))))
	case reflect.Slice:
		n := v.Len()
		switch k := d.Intn(4); {
		case k == 0 && n > 0:
			v.Set(v.Slice(0, n-1))
		case k == 1 && n > 0:
			v.Set(reflect.Append(v.Slice3(0, n, n), v.Index(d.Intn(n))))
		case k == 2:
			v.Set(reflect.Append(v.Slice3(0, n, n), reflect.Zero(v.Type().Elem())))
		case k == 3:
			v.Set(reflect.Zero(v.Type()))
		}
	}
}

// TestP172SpoiltTrees: a statement may be just if its text is read as it.
func TestP172SpoiltTrees(t *testing.T) {
	d := newDrawer(5)
	count := map[api.Errno]int{}
	for range 20000 {
		s := copied(d.stmt())
		for range 1 + d.Intn(2) {
			d.spoil(&s)
		}
		text := spelt(printedWords().stmt(s))
		if len(text) > api.MaxSql {
			continue
		}
		want := api.ErrTree
		if again, _, no := stmt.Parse(text); no == api.OK && reflect.DeepEqual(plain(again), plain(s)) {
			want = api.OK
		}
		if deepest(reflect.ValueOf(s)) > api.MaxDepth {
			want = api.ErrDeep
		}
		checks(t, s, want)
		if want == api.OK {
			prints(t, s, text)
		}
		if t.Failed() {
			return
		}
		count[want]++
	}
	if count[api.OK] < 3000 || count[api.ErrTree] < 8000 {
		t.Error(count)
	}
}

// deepest is the greatest depth of an expression or a select.
func deepest(v reflect.Value) int {
	n := 0
	switch v.Kind() {
	case reflect.Struct:
		for i := range v.NumField() {
			n = max(n, deepest(v.Field(i)))
		}
		switch v.Interface().(type) {
		case api.Expr, api.Select:
			return n + 1
		}
	case reflect.Slice:
		for i := range v.Len() {
			n = max(n, deepest(v.Index(i)))
		}
	}
	return n
}

// plain is a statement with empty lists made into none.
func plain(s api.Stmt) api.Stmt {
	s = copied(s)
	for _, p := range places(reflect.ValueOf(&s).Elem(), nil) {
		if p.Kind() == reflect.Slice && p.Len() == 0 {
			p.Set(reflect.Zero(p.Type()))
		}
	}
	return s
}

// copied is the same statement in other memory.
func copied(s api.Stmt) api.Stmt {
	return deepCopy(reflect.ValueOf(s)).Interface().(api.Stmt)
}

func deepCopy(v reflect.Value) reflect.Value {
	c := reflect.New(v.Type()).Elem()
	c.Set(v)
	switch v.Kind() {
	case reflect.Struct:
		for i := range v.NumField() {
			c.Field(i).Set(deepCopy(v.Field(i)))
		}
	case reflect.Slice:
		if v.IsNil() {
			return c
		}
		c.Set(reflect.MakeSlice(v.Type(), v.Len(), v.Len()))
		for i := range v.Len() {
			c.Index(i).Set(deepCopy(v.Index(i)))
		}
	}
	return c
}
