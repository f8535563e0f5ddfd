package expr

import (
	"bureau/api"
	"bureau/token"
	"bureau/value"
)

// What an OpCase's and an OpCall's N says.
const (
	caseBase     = 1
	caseElse     = 2
	callDistinct = 1
	callStar     = 2
)

// Check tells whether a text has that expression as its tree.
func Check(e api.Expr) api.Errno { return check(part{expr: &e}) }

// CheckSelect tells whether a text has that select as its tree.
func CheckSelect(s api.Select) api.Errno { return check(part{sel: &s}) }

func check(p part) api.Errno {
	switch {
	case p.depth() > api.MaxDepth:
		return api.ErrDeep
	case !p.mayBe():
		return api.ErrTree
	}
	return api.OK
}

func (p part) mayBe() bool {
	if p.expr != nil && !exprMayBe(p.expr) || p.sel != nil && !selectMayBe(p.sel) {
		return false
	}
	for q := range p.within() {
		if q.sel != nil && len(q.sel.With) > 0 || !q.mayBe() {
			return false
		}
	}
	return true
}

// exprMayBe looks at an expression alone, not at its parts.
func exprMayBe(e *api.Expr) bool {
	args, subs := len(e.Args), len(e.Sub)
	switch e.Op {
	case api.OpLit:
		return args+subs == 0 && isLiteral(e.V) && only(e, api.Expr{V: e.V})
	case api.OpCol:
		return args+subs == 0 && token.Name(e.Name) && isNew(e.Table) && only(e, api.Expr{Table: e.Table, Name: e.Name})
	case api.OpParam:
		return args+subs == 0 && isParam(e.N) && only(e, api.Expr{N: e.N})
	case api.OpNeg, api.OpPlus, api.OpNot:
		return args == 1 && subs == 0 && only(e, api.Expr{})
	case api.OpLike, api.OpGlob:
		return args == 2 && subs == 0 && only(e, api.Expr{Not: e.Not})
	case api.OpBetween:
		return args == 3 && subs == 0 && only(e, api.Expr{Not: e.Not})
	case api.OpIn:
		return args > 0 && (subs == 0 || args == 1 && subs == 1) && only(e, api.Expr{Not: e.Not})
	case api.OpExists:
		return args == 0 && subs == 1 && only(e, api.Expr{Not: e.Not})
	case api.OpScalar:
		return args == 0 && subs == 1 && only(e, api.Expr{})
	case api.OpCase:
		return caseFits(e.N, args) && subs == 0 && only(e, api.Expr{N: e.N})
	case api.OpCast:
		return args == 1 && subs == 0 && isType(e.Name) && only(e, api.Expr{Name: e.Name})
	case api.OpCollate:
		return args == 1 && subs == 0 && isRule(e.Name) && only(e, api.Expr{Name: e.Name})
	case api.OpCall:
		return callFits(e.N, args) && subs == 0 && isFunction(e.Name) && only(e, api.Expr{Name: e.Name, N: e.N})
	}
	return sign(e.Op) != "" && args == 2 && subs == 0 && only(e, api.Expr{})
}

// only says that an expression has, beside its parts, nothing but what is kept of it.
func only(e *api.Expr, kept api.Expr) bool {
	return e.Not == kept.Not && e.Table == kept.Table && e.Name == kept.Name && e.N == kept.N && e.V == kept.V
}

func isLiteral(v api.Value) bool {
	return value.May(v) && v.Int >= 0
}

func isParam(n int) bool {
	return n >= 1 && n <= api.MaxParams
}

// isNew says that a text is a name, or that none is told.
func isNew(name string) bool {
	return name == "" || token.Name(name)
}

func isType(word string) bool {
	return isOneOf(word, "INTEGER", "INT", "TEXT", "BLOB")
}

func isRule(word string) bool {
	return isOneOf(word, "BINARY", "NOCASE", "RTRIM")
}

func isFunction(word string) bool {
	return token.Name(word) || isOneOf(word, "REPLACE")
}

func isOneOf(word string, l ...string) bool {
	for _, w := range l {
		if value.Equal(word, w, api.CollNoCase) {
			return true
		}
	}
	return false
}

func caseFits(n, args int) bool {
	if n < 0 || n > caseBase|caseElse {
		return false
	}
	pairs := args - n&caseBase - n&caseElse/caseElse
	return pairs > 0 && pairs%2 == 0
}

func callFits(n, args int) bool {
	switch n {
	case callDistinct:
		return args == 1
	case callStar:
		return args == 0
	}
	return n == 0
}

// selectMayBe looks at a select alone, not at the expressions and selects in it.
func selectMayBe(s *api.Select) bool {
	for _, t := range s.With {
		if !tableMayBe(t) {
			return false
		}
	}
	for i, p := range s.Parts {
		if (i == 0) != (p.Comp == api.CompFirst) || !partMayBe(p) {
			return false
		}
	}
	return len(s.Parts) > 0 && len(s.Limit) <= 1 && len(s.Offset) <= len(s.Limit)
}

func tableMayBe(t api.Cte) bool {
	for _, c := range t.Cols {
		if !token.Name(c) {
			return false
		}
	}
	return token.Name(t.Name) && len(t.Body) == 1
}

func partMayBe(p api.Part) bool {
	if p.Comp < api.CompFirst || p.Comp > api.CompExcept {
		return false
	}
	if len(p.Values) > 0 {
		rest := len(p.Items) + len(p.From) + len(p.Where) + len(p.Group) + len(p.Having)
		return !p.Distinct && rest == 0 && rowsMayBe(p.Values)
	}
	for _, i := range p.Items {
		if !itemMayBe(i) {
			return false
		}
	}
	for i, f := range p.From {
		if i == 0 && (f.Join != api.JoinInner || len(f.On) > 0) || !sourceMayBe(f) {
			return false
		}
	}
	return len(p.Items) > 0 && len(p.Where) <= 1 && len(p.Having) <= min(1, len(p.Group))
}

func rowsMayBe(rows [][]api.Expr) bool {
	for _, row := range rows {
		if len(row) == 0 || len(row) != len(rows[0]) {
			return false
		}
	}
	return true
}

func itemMayBe(i api.Item) bool {
	if i.Star {
		return isNew(i.Table) && len(i.Expr) == 0 && i.As == ""
	}
	return i.Table == "" && len(i.Expr) == 1 && isNew(i.As)
}

func sourceMayBe(f api.Source) bool {
	if f.Join != api.JoinInner && f.Join != api.JoinLeft || !isNew(f.As) || len(f.On) > 1 {
		return false
	}
	if len(f.Sub) > 0 {
		return len(f.Sub) == 1 && f.Name == ""
	}
	return token.Name(f.Name)
}
