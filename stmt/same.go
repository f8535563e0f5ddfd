package stmt

import (
	"slices"

	"bureau/api"
	"bureau/expr"
)

// Same tells whether two statements are the same, part by part.
func Same(a, b api.Stmt) bool {
	return a.Kind == b.Kind && a.What == b.What && a.If == b.If && a.Unique == b.Unique && a.Or == b.Or &&
		a.Name == b.Name && a.Table == b.Table && a.To == b.To && slices.Equal(a.Cols, b.Cols) &&
		slices.EqualFunc(a.Defs, b.Defs, sameDef) && slices.Equal(a.Keys, b.Keys) && slices.EqualFunc(a.Sets, b.Sets, sameSet) &&
		sameExprs(a.Where, b.Where) && slices.EqualFunc(a.Select, b.Select, expr.SameSelect)
}

func sameDef(a, b api.ColDef) bool {
	return a.Name == b.Name && a.Type == b.Type && a.Coll == b.Coll && a.Primary == b.Primary && a.Unique == b.Unique &&
		a.NotNull == b.NotNull && sameExprs(a.Default, b.Default) && sameExprs(a.Check, b.Check)
}

func sameSet(a, b api.Set) bool {
	return a.Name == b.Name && expr.Same(a.Expr, b.Expr)
}

func sameExprs(a, b []api.Expr) bool {
	return slices.EqualFunc(a, b, expr.Same)
}
