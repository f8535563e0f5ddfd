package expr_test

import (
	"strings"
	"testing"

	"bureau/api"
	"bureau/expr"
	"bureau/token"
)

// Trees by hand, told shortly.

func op(o api.Op, args ...api.Expr) api.Expr { return api.Expr{Op: o, Args: args} }
func num(n int64) api.Expr {
	return api.Expr{Op: api.OpLit, V: api.Value{Kind: api.KindInt, Int: n}}
}
func text(s string) api.Expr {
	return api.Expr{Op: api.OpLit, V: api.Value{Kind: api.KindText, Text: s}}
}
func blob(s string) api.Expr {
	return api.Expr{Op: api.OpLit, V: api.Value{Kind: api.KindBlob, Text: s}}
}
func null() api.Expr                 { return api.Expr{Op: api.OpLit} }
func col(name string) api.Expr       { return api.Expr{Op: api.OpCol, Name: name} }
func of(table, name string) api.Expr { return api.Expr{Op: api.OpCol, Table: table, Name: name} }
func param(n int) api.Expr           { return api.Expr{Op: api.OpParam, N: n} }
func not(e api.Expr) api.Expr        { e.Not = true; return e }
func in(s api.Select, args ...api.Expr) api.Expr {
	return api.Expr{Op: api.OpIn, Args: args, Sub: []api.Select{s}}
}
func exists(s api.Select) api.Expr { return api.Expr{Op: api.OpExists, Sub: []api.Select{s}} }
func scalar(s api.Select) api.Expr { return api.Expr{Op: api.OpScalar, Sub: []api.Select{s}} }
func cases(n int, args ...api.Expr) api.Expr {
	return api.Expr{Op: api.OpCase, N: n, Args: args}
}
func cast(e api.Expr, name string) api.Expr {
	return api.Expr{Op: api.OpCast, Name: name, Args: []api.Expr{e}}
}
func collate(e api.Expr, name string) api.Expr {
	return api.Expr{Op: api.OpCollate, Name: name, Args: []api.Expr{e}}
}
func call(name string, n int, args ...api.Expr) api.Expr {
	return api.Expr{Op: api.OpCall, Name: name, N: n, Args: args}
}

func one(e api.Expr) []api.Expr { return []api.Expr{e} }
func item(e api.Expr) api.Item  { return api.Item{Expr: one(e)} }
func part(l ...api.Expr) api.Part {
	var p api.Part
	for _, e := range l {
		p.Items = append(p.Items, item(e))
	}
	return p
}
func parts(l ...api.Part) api.Select { return api.Select{Parts: l} }
func sel(l ...api.Expr) api.Select   { return parts(part(l...)) }
func comp(c api.Compound, p api.Part) api.Part {
	p.Comp = c
	return p
}
func values(rows ...[]api.Expr) api.Part { return api.Part{Values: rows} }
func from(l ...api.Source) api.Part      { return api.Part{Items: []api.Item{{Star: true}}, From: l} }
func subs(s api.Select) []api.Select     { return []api.Select{s} }

// tokens cuts a text that may be longer than a statement's.
func tokens(t testing.TB, sql string) []api.Token {
	var l []api.Token
	for _, w := range strings.Fields(sql) {
		l = append(l, scanned(t, w)...)
	}
	return l
}

func scanned(t testing.TB, sql string) []api.Token {
	l, _, e := token.Scan(sql)
	if e != api.OK {
		t.Fatal(sql, e)
	}
	return l
}

func many(sql string, n int) string {
	return strings.Repeat(sql+" ", n)
}

func reads(t *testing.T, sql string, want api.Expr) {
	t.Helper()
	if e, at, no := expr.Parse(sql); no != api.OK || at != 0 || !expr.Same(e, want) {
		t.Errorf("%q is read as %+v, at %d, %v", sql, e, at, no)
	}
}

func readsSelect(t *testing.T, sql string, want api.Select) {
	t.Helper()
	if s, at, no := expr.ParseSelect(sql); no != api.OK || at != 0 || !expr.SameSelect(s, want) {
		t.Errorf("%q is read as %+v, at %d, %v", sql, s, at, no)
	}
}

// refuses asks both ways of reading at the place and the error.
func refuses(t *testing.T, sql string, place int, want api.Errno) {
	t.Helper()
	if e, at, no := expr.Parse(sql); no != want || at != place || !expr.Same(e, api.Expr{}) {
		t.Errorf("%q is read as %+v, at %d, %v; not at %d, %v", sql, e, at, no, place, want)
	}
}

func refusesSelect(t *testing.T, sql string, place int, want api.Errno) {
	t.Helper()
	if s, at, no := expr.ParseSelect(sql); no != want || at != place || !expr.SameSelect(s, api.Select{}) {
		t.Errorf("%q is read as %+v, at %d, %v; not at %d, %v", sql, s, at, no, place, want)
	}
}
