package expr

import (
	"iter"

	"bureau/api"
)

// part is an expression or a select of a tree: the other one is nil.
type part struct {
	expr *api.Expr
	sel  *api.Select
}

// Depth tells how many expressions and selects stand in one another at most.
func Depth(e api.Expr) int { return part{expr: &e}.depth() }

// DepthSelect tells how many expressions and selects stand in one another at most.
func DepthSelect(s api.Select) int { return part{sel: &s}.depth() }

// Params tells the greatest number of a parameter.
func Params(e api.Expr) int { return part{expr: &e}.params() }

// ParamsSelect tells the greatest number of a parameter.
func ParamsSelect(s api.Select) int { return part{sel: &s}.params() }

func (p part) depth() int {
	deepest := 0
	for q := range p.within() {
		deepest = max(deepest, q.depth())
	}
	return deepest + 1
}

func (p part) params() int {
	greatest := 0
	if p.expr != nil && p.expr.Op == api.OpParam {
		greatest = max(greatest, p.expr.N)
	}
	for q := range p.within() {
		greatest = max(greatest, q.params())
	}
	return greatest
}

// within goes over the parts that stand right in a part.
func (p part) within() iter.Seq[part] {
	return func(yield func(part) bool) {
		exprs, selects := p.lists()
		for _, l := range exprs {
			for i := range l {
				if !yield(part{expr: &l[i]}) {
					return
				}
			}
		}
		for _, l := range selects {
			for i := range l {
				if !yield(part{sel: &l[i]}) {
					return
				}
			}
		}
	}
}

// lists tells the lists of expressions and those of selects that a part has.
func (p part) lists() ([][]api.Expr, [][]api.Select) {
	if p.expr != nil {
		return [][]api.Expr{p.expr.Args}, [][]api.Select{p.expr.Sub}
	}
	s := p.sel
	exprs := [][]api.Expr{terms(s.Order), s.Limit, s.Offset}
	var selects [][]api.Select
	for _, t := range s.With {
		selects = append(selects, t.Body)
	}
	for _, q := range s.Parts {
		exprs = append(exprs, q.Where, q.Group, q.Having)
		exprs = append(exprs, q.Values...)
		for _, i := range q.Items {
			exprs = append(exprs, i.Expr)
		}
		for _, f := range q.From {
			exprs = append(exprs, f.On)
			selects = append(selects, f.Sub)
		}
	}
	return exprs, selects
}

func terms(order []api.Sort) []api.Expr {
	var l []api.Expr
	for _, t := range order {
		l = append(l, t.Expr)
	}
	return l
}
