// Package clone copies trees of expressions and selects (shared/doc/16-expr.md), for calls whose answers share no memory with what they were handed.
package clone

import (
	"slices"

	"bureau/api"
)

// Expr is the same expression in memory of its own.
func Expr(e api.Expr) api.Expr {
	e.Args = List(e.Args, Expr)
	e.Sub = List(e.Sub, Select)
	return e
}

// Select is the same select in memory of its own.
func Select(s api.Select) api.Select {
	s.With = List(s.With, table)
	s.Parts = List(s.Parts, part)
	s.Order = List(s.Order, term)
	s.Limit = List(s.Limit, Expr)
	s.Offset = List(s.Offset, Expr)
	return s
}

// List is a list of copies.
func List[T any](l []T, copied func(T) T) []T {
	var own []T
	for _, x := range l {
		own = append(own, copied(x))
	}
	return own
}

func table(t api.Cte) api.Cte {
	t.Cols = slices.Clone(t.Cols)
	t.Body = List(t.Body, Select)
	return t
}

func part(p api.Part) api.Part {
	p.Items = List(p.Items, item)
	p.From = List(p.From, source)
	p.Where = List(p.Where, Expr)
	p.Group = List(p.Group, Expr)
	p.Having = List(p.Having, Expr)
	p.Values = List(p.Values, row)
	return p
}

func item(i api.Item) api.Item {
	i.Expr = List(i.Expr, Expr)
	return i
}

func source(f api.Source) api.Source {
	f.Sub = List(f.Sub, Select)
	f.On = List(f.On, Expr)
	return f
}

func row(l []api.Expr) []api.Expr {
	return List(l, Expr)
}

func term(t api.Sort) api.Sort {
	t.Expr = Expr(t.Expr)
	return t
}
