package expr

import (
	"slices"

	"bureau/api"
)

// Same tells whether two expressions are the same, part by part.
func Same(a, b api.Expr) bool {
	return a.Op == b.Op && only(&a, b) && slices.EqualFunc(a.Args, b.Args, Same) && slices.EqualFunc(a.Sub, b.Sub, SameSelect)
}

// SameSelect tells whether two selects are the same, part by part.
func SameSelect(a, b api.Select) bool {
	return slices.EqualFunc(a.With, b.With, sameTable) && slices.EqualFunc(a.Parts, b.Parts, samePart) &&
		slices.EqualFunc(a.Order, b.Order, sameTerm) && sameAll(a.Limit, b.Limit) && sameAll(a.Offset, b.Offset)
}

func sameAll(a, b []api.Expr) bool {
	return slices.EqualFunc(a, b, Same)
}

func sameTable(a, b api.Cte) bool {
	return a.Name == b.Name && slices.Equal(a.Cols, b.Cols) && slices.EqualFunc(a.Body, b.Body, SameSelect)
}

func samePart(a, b api.Part) bool {
	return a.Comp == b.Comp && a.Distinct == b.Distinct && slices.EqualFunc(a.Items, b.Items, sameItem) &&
		slices.EqualFunc(a.From, b.From, sameSource) && sameAll(a.Where, b.Where) && sameAll(a.Group, b.Group) &&
		sameAll(a.Having, b.Having) && slices.EqualFunc(a.Values, b.Values, sameAll)
}

func sameItem(a, b api.Item) bool {
	return a.Star == b.Star && a.Table == b.Table && sameAll(a.Expr, b.Expr) && a.As == b.As
}

func sameSource(a, b api.Source) bool {
	return a.Join == b.Join && a.Name == b.Name && slices.EqualFunc(a.Sub, b.Sub, SameSelect) && a.As == b.As && sameAll(a.On, b.On)
}

func sameTerm(a, b api.Sort) bool {
	return a.Desc == b.Desc && Same(a.Expr, b.Expr)
}
